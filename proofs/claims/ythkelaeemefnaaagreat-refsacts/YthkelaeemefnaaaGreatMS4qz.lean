import Derived.Test.YthkelaeemefnaaaGreatMS3qz
set_option maxRecDepth 20000
set_option maxHeartbeats 2000000
namespace Go.Proofs.YthkelaeemefnaaaGreat
open Go.RowKit
section
variable {w:World}{P:Nat→Prop}{s b bw bs bt bu bl W G base cap:Nat}{ws cs:Nat→Int}{ops:Nat→Op}{ob:Nat→Nat}{T:Int}{xs:List Int}
end
theorem z8K {b bt bu bl base cap:Nat}(g:Nat) (item:Int) (w:World):
  Calls Tryz.prog 247 #[.agg #[.pointer (some ⟨b,0,none⟩),.func (.func 182) #[] #[.pointer (some ⟨bt,0,none⟩)],.func (.func 183) #[] #[.pointer (some ⟨bu,0,none⟩)],.pointer (some ⟨b,0,none⟩),.func (.func 184) #[] #[.pointer (some ⟨bl,0,none⟩)],.func (.func 181) #[] #[],.int .i64 base,.int .i64 cap],.int .i64 g,.int .i64 item] w fun e w'=>e=.returned (.pointer (some ⟨w.heap.size+1+1+1,0,none⟩)) ∧
   w'=(((w.alloc (.cells #[.pointer (some ⟨b,0,none⟩),.func (.func 182) #[] #[.pointer (some ⟨bt,0,none⟩)],.func (.func 183) #[] #[.pointer (some ⟨bu,0,none⟩)],.pointer (some ⟨b,0,none⟩),.func (.func 184) #[] #[.pointer (some ⟨bl,0,none⟩)],.func (.func 181) #[] #[],.int .i64 base,.int .i64 cap] 238)).alloc (.cells #[.int .i64 g] 3)).alloc (.cells #[.int .i64 item] 241)).alloc (.cells #[.int .i64 0,.int .i64 0,.int .i64 0,.func (.func 252) #[] #[.pointer (some ⟨w.heap.size,0,none⟩),.pointer (some ⟨w.heap.size+1,0,none⟩),.pointer (some ⟨w.heap.size+1+1,0,none⟩)]] 312):=by
 go_enter Tryz.func247,Tryz.ntmps247
 go_wp2
 go_ret
 exact⟨rfl,rfl⟩
theorem zaY {b bt bu bl base cap:Nat}(g:Nat) (w:World):
  Calls Tryz.prog 248 #[.agg #[.pointer (some ⟨b,0,none⟩),.func (.func 182) #[] #[.pointer (some ⟨bt,0,none⟩)],.func (.func 183) #[] #[.pointer (some ⟨bu,0,none⟩)],.pointer (some ⟨b,0,none⟩),.func (.func 184) #[] #[.pointer (some ⟨bl,0,none⟩)],.func (.func 181) #[] #[],.int .i64 base,.int .i64 cap],.int .i64 g] w fun e w'=>e=.returned (.pointer (some ⟨w.heap.size+1+1,0,none⟩)) ∧
   w'=((w.alloc (.cells #[.pointer (some ⟨b,0,none⟩),.func (.func 182) #[] #[.pointer (some ⟨bt,0,none⟩)],.func (.func 183) #[] #[.pointer (some ⟨bu,0,none⟩)],.pointer (some ⟨b,0,none⟩),.func (.func 184) #[] #[.pointer (some ⟨bl,0,none⟩)],.func (.func 181) #[] #[],.int .i64 base,.int .i64 cap] 238)).alloc (.cells #[.int .i64 g] 3)).alloc (.cells #[.int .i64 0,.int .i64 0,.int .i64 0,.int .i64 0,.func (.func 256) #[] #[.pointer (some ⟨w.heap.size,0,none⟩),.pointer (some ⟨w.heap.size+1,0,none⟩)]] 319):=by
 go_enter Tryz.func248,Tryz.ntmps248
 go_wp2
 go_ret
 exact⟨rfl,rfl⟩
theorem z7G (w:World) (s i j:Nat) (v:Value) (h:i≠j):(w.setCell ⟨s,i,none⟩ v).cell? ⟨s,j,none⟩=w.cell? ⟨s,j,none⟩:=World.cell?_setCell_other _ _ _ _ (fun e=>h (by injection e))
theorem zfN {w:World}{s g:Nat}{x1 x2 x3 x4 x5 x6 x7 x8 u v:Value}(h:w.cell? ⟨s,1,none⟩=some x1∧w.cell? ⟨s,2,none⟩=some x2∧w.cell? ⟨s,3,none⟩=some x3∧w.cell? ⟨s,4,none⟩=some x4∧w.cell? ⟨s,5,none⟩=some x5∧w.cell? ⟨s,6,none⟩=some x6∧w.cell? ⟨s,7,none⟩=some x7∧w.cell? ⟨s,8,none⟩=some x8):((w.setCell ⟨s,9+g*2,none⟩ u).setCell ⟨s,9+g*2+1,none⟩ v).cell? ⟨s,1,none⟩=some x1∧((w.setCell ⟨s,9+g*2,none⟩ u).setCell ⟨s,9+g*2+1,none⟩ v).cell? ⟨s,2,none⟩=some x2∧((w.setCell ⟨s,9+g*2,none⟩ u).setCell ⟨s,9+g*2+1,none⟩ v).cell? ⟨s,3,none⟩=some x3∧((w.setCell ⟨s,9+g*2,none⟩ u).setCell ⟨s,9+g*2+1,none⟩ v).cell? ⟨s,4,none⟩=some x4∧((w.setCell ⟨s,9+g*2,none⟩ u).setCell ⟨s,9+g*2+1,none⟩ v).cell? ⟨s,5,none⟩=some x5∧((w.setCell ⟨s,9+g*2,none⟩ u).setCell ⟨s,9+g*2+1,none⟩ v).cell? ⟨s,6,none⟩=some x6∧((w.setCell ⟨s,9+g*2,none⟩ u).setCell ⟨s,9+g*2+1,none⟩ v).cell? ⟨s,7,none⟩=some x7∧((w.setCell ⟨s,9+g*2,none⟩ u).setCell ⟨s,9+g*2+1,none⟩ v).cell? ⟨s,8,none⟩=some x8:=by
 obtain⟨h1,h2,h3,h4,h5,h6,h7,h8⟩:=h
 refine⟨?_,?_,?_,?_,?_,?_,?_,?_⟩<;>(rw[z7G _ _ _ _ _ (by omega),z7G _ _ _ _ _ (by omega)];assumption)
theorem z7a {b bt bu bl base cap:Nat}(g:Nat) (item:Int) (w:World):
  Calls Tryz.prog 247 #[.agg #[.pointer (some ⟨b,0,none⟩),.func (.func 182) #[] #[.pointer (some ⟨bt,0,none⟩)],.func (.func 183) #[] #[.pointer (some ⟨bu,0,none⟩)],.pointer (some ⟨b,0,none⟩),.func (.func 184) #[] #[.pointer (some ⟨bl,0,none⟩)],.func (.func 181) #[] #[],.int .i64 base,.int .i64 cap],.int .i64 g,.int .i64 item] w fun e w'=>∃ o x y z,e=.returned (.pointer (some ⟨o,0,none⟩))∧Below w.heap.size w w'∧w.heap.size≤o∧w.heap.size≤x∧w.heap.size≤y∧w.heap.size≤z ∧
   w'.heap[o]?=some (.cells #[.int .i64 0,.int .i64 0,.int .i64 0,.func (.func 252) #[] #[.pointer (some ⟨x,0,none⟩),.pointer (some ⟨y,0,none⟩),.pointer (some ⟨z,0,none⟩)]] 312 (0,0))∧w'.heap[x]?=some (.cells #[.pointer (some ⟨b,0,none⟩),.func (.func 182) #[] #[.pointer (some ⟨bt,0,none⟩)],.func (.func 183) #[] #[.pointer (some ⟨bu,0,none⟩)],.pointer (some ⟨b,0,none⟩),.func (.func 184) #[] #[.pointer (some ⟨bl,0,none⟩)],.func (.func 181) #[] #[],.int .i64 base,.int .i64 cap] 238 (0,0))∧w'.heap[y]?=some (.cells #[.int .i64 g] 3 (0,0))∧w'.heap[z]?=some (.cells #[.int .i64 item] 241 (0,0)):=by
 refine (z8K g item w).mono ?_
 rintro e w' ⟨rfl,rfl⟩
 have s1:=Go.Deep.nblk_alloc w (.cells #[.pointer (some ⟨b,0,none⟩),.func (.func 182) #[] #[.pointer (some ⟨bt,0,none⟩)],.func (.func 183) #[] #[.pointer (some ⟨bu,0,none⟩)],.pointer (some ⟨b,0,none⟩),.func (.func 184) #[] #[.pointer (some ⟨bl,0,none⟩)],.func (.func 181) #[] #[],.int .i64 base,.int .i64 cap] 238)
 have s2:=Go.Deep.nblk_alloc (w.alloc (.cells #[.pointer (some ⟨b,0,none⟩),.func (.func 182) #[] #[.pointer (some ⟨bt,0,none⟩)],.func (.func 183) #[] #[.pointer (some ⟨bu,0,none⟩)],.pointer (some ⟨b,0,none⟩),.func (.func 184) #[] #[.pointer (some ⟨bl,0,none⟩)],.func (.func 181) #[] #[],.int .i64 base,.int .i64 cap] 238)) (.cells #[.int .i64 g] 3)
 have s3:=Go.Deep.nblk_alloc ((w.alloc (.cells #[.pointer (some ⟨b,0,none⟩),.func (.func 182) #[] #[.pointer (some ⟨bt,0,none⟩)],.func (.func 183) #[] #[.pointer (some ⟨bu,0,none⟩)],.pointer (some ⟨b,0,none⟩),.func (.func 184) #[] #[.pointer (some ⟨bl,0,none⟩)],.func (.func 181) #[] #[],.int .i64 base,.int .i64 cap] 238)).alloc (.cells #[.int .i64 g] 3)) (.cells #[.int .i64 item] 241)
 refine⟨_,w.heap.size,w.heap.size+1,w.heap.size+1+1,rfl,?_,by omega,by omega,by omega,by omega,?_,?_,?_,?_⟩
 ·exact ((((Below.refl _ w).alloc (Nat.le_refl _) _).alloc (by simp) _).alloc (by simp;omega) _).alloc (by simp;omega) _
 ·have:=heap_alloc_new (((w.alloc (.cells #[.pointer (some ⟨b,0,none⟩),.func (.func 182) #[] #[.pointer (some ⟨bt,0,none⟩)],.func (.func 183) #[] #[.pointer (some ⟨bu,0,none⟩)],.pointer (some ⟨b,0,none⟩),.func (.func 184) #[] #[.pointer (some ⟨bl,0,none⟩)],.func (.func 181) #[] #[],.int .i64 base,.int .i64 cap] 238)).alloc (.cells #[.int .i64 g] 3)).alloc (.cells #[.int .i64 item] 241)) (.cells #[.int .i64 0,.int .i64 0,.int .i64 0,.func (.func 252) #[] #[.pointer (some ⟨w.heap.size,0,none⟩),.pointer (some ⟨w.heap.size+1,0,none⟩),.pointer (some ⟨w.heap.size+1+1,0,none⟩)]] 312)
  rw[s3,s2,s1] at this
  exact this
 ·exact z01 (z01 (z01 (heap_alloc_new w _) _) _) _
 ·exact z01 (z01 (new2 _ _) _) _
 ·have:=heap_alloc_new ((w.alloc (.cells #[.pointer (some ⟨b,0,none⟩),.func (.func 182) #[] #[.pointer (some ⟨bt,0,none⟩)],.func (.func 183) #[] #[.pointer (some ⟨bu,0,none⟩)],.pointer (some ⟨b,0,none⟩),.func (.func 184) #[] #[.pointer (some ⟨bl,0,none⟩)],.func (.func 181) #[] #[],.int .i64 base,.int .i64 cap] 238)).alloc (.cells #[.int .i64 g] 3)) (.cells #[.int .i64 item] 241)
  rw[s2,s1] at this
  exact z01 this _
theorem z8l {b bt bu bl base cap:Nat}(g:Nat) (w:World):
  Calls Tryz.prog 248 #[.agg #[.pointer (some ⟨b,0,none⟩),.func (.func 182) #[] #[.pointer (some ⟨bt,0,none⟩)],.func (.func 183) #[] #[.pointer (some ⟨bu,0,none⟩)],.pointer (some ⟨b,0,none⟩),.func (.func 184) #[] #[.pointer (some ⟨bl,0,none⟩)],.func (.func 181) #[] #[],.int .i64 base,.int .i64 cap],.int .i64 g] w fun e w'=>∃ o x y,e=.returned (.pointer (some ⟨o,0,none⟩))∧Below w.heap.size w w'∧w.heap.size≤o∧w.heap.size≤x∧w.heap.size≤y ∧
   w'.heap[o]?=some (.cells #[.int .i64 0,.int .i64 0,.int .i64 0,.int .i64 0,.func (.func 256) #[] #[.pointer (some ⟨x,0,none⟩),.pointer (some ⟨y,0,none⟩)]] 319 (0,0))∧w'.heap[x]?=some (.cells #[.pointer (some ⟨b,0,none⟩),.func (.func 182) #[] #[.pointer (some ⟨bt,0,none⟩)],.func (.func 183) #[] #[.pointer (some ⟨bu,0,none⟩)],.pointer (some ⟨b,0,none⟩),.func (.func 184) #[] #[.pointer (some ⟨bl,0,none⟩)],.func (.func 181) #[] #[],.int .i64 base,.int .i64 cap] 238 (0,0))∧w'.heap[y]?=some (.cells #[.int .i64 g] 3 (0,0)):=by
 refine (zaY g w).mono ?_
 rintro e w' ⟨rfl,rfl⟩
 have s1:=Go.Deep.nblk_alloc w (.cells #[.pointer (some ⟨b,0,none⟩),.func (.func 182) #[] #[.pointer (some ⟨bt,0,none⟩)],.func (.func 183) #[] #[.pointer (some ⟨bu,0,none⟩)],.pointer (some ⟨b,0,none⟩),.func (.func 184) #[] #[.pointer (some ⟨bl,0,none⟩)],.func (.func 181) #[] #[],.int .i64 base,.int .i64 cap] 238)
 have s2:=Go.Deep.nblk_alloc (w.alloc (.cells #[.pointer (some ⟨b,0,none⟩),.func (.func 182) #[] #[.pointer (some ⟨bt,0,none⟩)],.func (.func 183) #[] #[.pointer (some ⟨bu,0,none⟩)],.pointer (some ⟨b,0,none⟩),.func (.func 184) #[] #[.pointer (some ⟨bl,0,none⟩)],.func (.func 181) #[] #[],.int .i64 base,.int .i64 cap] 238)) (.cells #[.int .i64 g] 3)
 refine⟨_,w.heap.size,w.heap.size+1,rfl,?_,by omega,by omega,by omega,?_,?_,?_⟩
 ·exact (((Below.refl _ w).alloc (Nat.le_refl _) _).alloc (by simp) _).alloc (by simp;omega) _
 ·have:=heap_alloc_new ((w.alloc (.cells #[.pointer (some ⟨b,0,none⟩),.func (.func 182) #[] #[.pointer (some ⟨bt,0,none⟩)],.func (.func 183) #[] #[.pointer (some ⟨bu,0,none⟩)],.pointer (some ⟨b,0,none⟩),.func (.func 184) #[] #[.pointer (some ⟨bl,0,none⟩)],.func (.func 181) #[] #[],.int .i64 base,.int .i64 cap] 238)).alloc (.cells #[.int .i64 g] 3)) (.cells #[.int .i64 0,.int .i64 0,.int .i64 0,.int .i64 0,.func (.func 256) #[] #[.pointer (some ⟨w.heap.size,0,none⟩),.pointer (some ⟨w.heap.size+1,0,none⟩)]] 319)
  rw[s2,s1] at this
  exact this
 ·exact z01 (z01 (heap_alloc_new w _) _) _
 ·exact z01 (new2 _ _) _
section
variable {w:World}{P:Nat→Prop}{s b bw bs bt bu bl W G base cap:Nat}{ws cs:Nat→Int}{ops:Nat→Op}{ob:Nat→Nat}{T:Int}{xs:List Int}
def z9p (w:World) (P:Nat→Prop) (s b bw bs bt bu bl W G base cap:Nat) (ws cs:Nat→Int) (ops:Nat→Op) (g:Nat) (op:Op) (e:Ending) (w':World):Prop :=
 ∃ P' ob',e=.returned (.int .i64 0)∧Stk w' P' s b bw bs bt bu bl W G base cap ws cs (z0v ops g op) ob'∧Bt P w w'∧∀ k,P' k→P k∨w.heap.size≤k
theorem Tk.own {g o:Nat}{op:Op}(h:Tk w P b bw bs bt bu bl base cap g op o) (hb:op≠.idle):P o:=by
 cases op with
 | idle=>exact absurd rfl hb
 | push _ _ _ _=>exact h.1
 | pop _ _ _ _=>exact h.1
theorem z8v (h:Stk w P s b bw bs bt bu bl W G base cap ws cs ops ob) (hI:Inv base cap ws ops T xs) (hT:T≤1000000000) (g:Nat) (v:Int) (hg:g<G) (hb:ops g=.idle) (hm:May cap ops xs v):
  Calls Tryz.prog 242 #[.pointer (some ⟨s,0,none⟩),.int .i64 g,.int .i64 0,.int .i64 v] w (z9p w P s b bw bs bt bu bl W G base cap ws cs ops g (.push (v+1) 0 0 0)):=by
 have c0:=h.c0
 have g12:(g:Int)<12:=by have:=h.few;omega
 have g12':g<12:=by omega
 have cv:=h.cv g g12'
 rw[hb] at cv
 simp only[Op.val] at cv
 have hn:=z0k h.ar g (by omega) (by omega)
 have ht:=zaD h hI hT v hm
 have hv0:=hm.1
 have hv1:v<100000:=by have:=hm.2.1;have:=h.cap2;omega
 clear hm
 go_enter Tryz.func242,Tryz.ntmps242
 go_wp2_with (first|(go_at_call 115;refine hn.mono ?_;rintro e w1 ⟨rfl,rfl⟩)|(go_at_call 246;refine ht.mono ?_;rintro e w2 ⟨rfl,hB⟩;have h2:=h.below hB;have cw:=h2.cw;have cv2:=h2.cv g g12';have cl2:=h2.cl g g12';have fz:=h2.here.frozen;clear hn ht c0))
 go_region_held3 (fun w'=>w'.cell? ⟨s,1,none⟩=some (.pointer (some ⟨b,0,none⟩))∧w'.cell? ⟨s,2,none⟩=some (.func (.func 182) #[] #[.pointer (some ⟨bt,0,none⟩)])∧w'.cell? ⟨s,3,none⟩=some (.func (.func 183) #[] #[.pointer (some ⟨bu,0,none⟩)])∧w'.cell? ⟨s,4,none⟩=some (.pointer (some ⟨b,0,none⟩))∧w'.cell? ⟨s,5,none⟩=some (.func (.func 184) #[] #[.pointer (some ⟨bl,0,none⟩)])∧w'.cell? ⟨s,6,none⟩=some (.func (.func 181) #[] #[])∧w'.cell? ⟨s,7,none⟩=some (.int .i64 base)∧w'.cell? ⟨s,8,none⟩=some (.int .i64 cap)) (first|go_keep|exact zfN cw5)
  (first
   | (go_at_call 174;refine (z1g v _ hv0 hv1).mono ?_;rintro e w5 ⟨rfl,rfl⟩)
   | (go_at_call 247;refine (z7a (b:=b) (bt:=bt) (bu:=bu) (bl:=bl) (base:=base) (cap:=cap) g (v+1) _).mono ?_;rintro e w5 ⟨o,x,y,z,rfl,hb5,l0,l1,l2,l3,b0,b1,b2,b3⟩;have h5:=h2.below (z0Z hb5);have cw5:=h5.cw;have cv5:=h5.cv g g12';have cl5:=h5.cl g g12';have fz5:=h5.here.frozen))
 go_wp2
 go_ret
 have hP:∀ k,P k→P k∨w1.heap.size≤k∧k<w5.heap.size:=fun k hk=>.inl hk
 have s2:=hB.size
 have s5:=(z0Z hb5).size
 have l0':w2.heap.size≤o:=l0
 have l1':w2.heap.size≤x:=l1
 have l2':w2.heap.size≤y:=l2
 have q1:=h.lt _ h.foot.2.2.1
 have q2:=h.lt _ h.foot.2.2.2.1
 refine⟨_,_,rfl,h5.task (P':=fun k=>P k∨w1.heap.size≤k∧k<w5.heap.size) hP (fun k hk=>?_) g hg (.push (v+1) 0 0 0) o ⟨.inr ⟨by omega,z02 b0⟩,x,y,z,.inr ⟨by omega,z02 b1⟩,.inr ⟨by omega,z02 b2⟩,.inr ⟨by have l3':w2.heap.size≤z:=l3;omega,z02 b3⟩,b0,b1,b2,by omega,by omega,b3⟩ (fun j hj _ hbj _=>?_),((((Bt.of_below hB).trans (Bt.of_below (z0Z hb5))).set s _ _ (.inl h.foot.1)).set s _ _ (.inl h.foot.1)),fun k hk=>hk.imp id (·.1)⟩
 ·rcases hk with hk|hk
  ·exact h5.lt k hk
  ·exact hk.2
 ·have:=h.lt _ ((h.tk j hj).own hbj)
  omega
theorem za3 (h:Stk w P s b bw bs bt bu bl W G base cap ws cs ops ob) (g:Nat) (v:Int) (hg:g<G) (hb:ops g=.idle):
  Calls Tryz.prog 242 #[.pointer (some ⟨s,0,none⟩),.int .i64 g,.int .i64 1,.int .i64 v] w (z9p w P s b bw bs bt bu bl W G base cap ws cs ops g (.pop 0 0 0 0)):=by
 have c0:=h.c0
 have g12:(g:Int)<12:=by have:=h.few;omega
 have g12':g<12:=by omega
 have cv:=h.cv g g12'
 rw[hb] at cv
 simp only[Op.val] at cv
 have hn:=z0k h.ar g (by omega) (by omega)
 go_enter Tryz.func242,Tryz.ntmps242
 have cw:=h.cw
 have cl2:=h.cl g g12'
 have fz:=h.here.frozen
 go_wp2_with (go_at_call 115;refine hn.mono ?_;rintro e w1 ⟨rfl,rfl⟩)
 go_region_held3 (fun w'=>w'.cell? ⟨s,1,none⟩=some (.pointer (some ⟨b,0,none⟩))∧w'.cell? ⟨s,2,none⟩=some (.func (.func 182) #[] #[.pointer (some ⟨bt,0,none⟩)])∧w'.cell? ⟨s,3,none⟩=some (.func (.func 183) #[] #[.pointer (some ⟨bu,0,none⟩)])∧w'.cell? ⟨s,4,none⟩=some (.pointer (some ⟨b,0,none⟩))∧w'.cell? ⟨s,5,none⟩=some (.func (.func 184) #[] #[.pointer (some ⟨bl,0,none⟩)])∧w'.cell? ⟨s,6,none⟩=some (.func (.func 181) #[] #[])∧w'.cell? ⟨s,7,none⟩=some (.int .i64 base)∧w'.cell? ⟨s,8,none⟩=some (.int .i64 cap)) (first|go_keep|exact zfN cw5)
  ((go_at_call 248;refine (z8l (b:=b) (bt:=bt) (bu:=bu) (bl:=bl) (base:=base) (cap:=cap) g _).mono ?_;rintro e w5 ⟨o,x,y,rfl,hb5,l0,l1,l2,b0,b1,b2⟩;have h5:=h.below (z0Z hb5);have cw5:=h5.cw;have cv5:=h5.cv g g12';have cl5:=h5.cl g g12';have fz5:=h5.here.frozen))
 go_wp2
 go_ret
 have hP:∀ k,P k→P k∨w1.heap.size≤k∧k<w5.heap.size:=fun k hk=>.inl hk
 have s5:=(z0Z hb5).size
 have l0':w1.heap.size≤o:=l0
 have l1':w1.heap.size≤x:=l1
 have l2':w1.heap.size≤y:=l2
 have q1:=h.lt _ h.foot.2.2.1
 have q2:=h.lt _ h.foot.2.2.2.1
 refine⟨_,_,rfl,h5.task (P':=fun k=>P k∨w1.heap.size≤k∧k<w5.heap.size) hP (fun k hk=>?_) g hg (.pop 0 0 0 0) o ⟨.inr ⟨by omega,z02 b0⟩,x,y,.inr ⟨by omega,z02 b1⟩,.inr ⟨by omega,z02 b2⟩,b0,b1,b2,by omega,by omega⟩ (fun j hj _ hbj _=>?_),(((Bt.of_below (z0Z hb5)).set s _ _ (.inl h.foot.1)).set s _ _ (.inl h.foot.1)),fun k hk=>hk.imp id (·.1)⟩
 ·rcases hk with hk|hk
  ·exact h5.lt k hk
  ·exact hk.2
 ·have:=h.lt _ ((h.tk j hj).own hbj)
  omega
end
end Go.Proofs.YthkelaeemefnaaaGreat
namespace Go.Proofs.YthkelaeemefnaaaGreat
open Go.RowKit
theorem zfD:(Tryz.prog.info? 232).map (·.size)=some 3:=by kernel_rfl
theorem zeY:(Tryz.prog.info? 236).map (·.size)=some 3:=by kernel_rfl
theorem zfG:(Tryz.prog.info? 238).map (·.size)=some 8:=by kernel_rfl
theorem zfR (bt:Nat) (w:World):(binOp BinOp.eql 229 (.func (.func 182) #[] #[.pointer (some ⟨bt,0,none⟩)]) .nilFunc).run Tryz.prog w=.ok (.bool false) w:=by kernel_rfl
theorem zff (bu:Nat) (w:World):(binOp BinOp.eql 230 (.func (.func 183) #[] #[.pointer (some ⟨bu,0,none⟩)]) .nilFunc).run Tryz.prog w=.ok (.bool false) w:=by kernel_rfl
theorem zfF (bl:Nat) (w:World):(binOp BinOp.eql 233 (.func (.func 184) #[] #[.pointer (some ⟨bl,0,none⟩)]) .nilFunc).run Tryz.prog w=.ok (.bool false) w:=by kernel_rfl
theorem zfe (w:World):(binOp BinOp.eql 234 (.func (.func 181) #[] #[]) .nilFunc).run Tryz.prog w=.ok (.bool false) w:=by kernel_rfl
theorem z8O (c:Int) (w:World):Calls Tryz.prog 177 #[.int .i64 c] w fun e w'=>∃ bt,e=.returned (.func (.func 182) #[] #[.pointer (some ⟨bt,0,none⟩)])∧Below w.heap.size w w'∧w.heap.size≤bt∧w'.heap[bt]?=some (.cells #[.int .i64 c] 3 (0,0)):=by
 go_enter Tryz.func177,Tryz.ntmps177
 go_wp2
 go_ret
 exact⟨_,rfl,(Below.refl _ _).alloc (Nat.le_refl _) _,Nat.le_refl _,heap_alloc_new _ _⟩
theorem z73 (c:Int) (w:World):Calls Tryz.prog 178 #[.int .i64 c] w fun e w'=>∃ bu,e=.returned (.func (.func 183) #[] #[.pointer (some ⟨bu,0,none⟩)])∧Below w.heap.size w w'∧w.heap.size≤bu∧w'.heap[bu]?=some (.cells #[.int .i64 c] 3 (0,0)):=by
 go_enter Tryz.func178,Tryz.ntmps178
 go_wp2
 go_ret
 exact⟨_,rfl,(Below.refl _ _).alloc (Nat.le_refl _) _,Nat.le_refl _,heap_alloc_new _ _⟩
theorem z6B (c:Int) (w:World):Calls Tryz.prog 180 #[.int .i64 c] w fun e w'=>∃ bl,e=.returned (.func (.func 184) #[] #[.pointer (some ⟨bl,0,none⟩)])∧Below w.heap.size w w'∧w.heap.size≤bl∧w'.heap[bl]?=some (.cells #[.int .i64 c] 3 (0,0)):=by
 go_enter Tryz.func180,Tryz.ntmps180
 go_wp2
 go_ret
 exact⟨_,rfl,(Below.refl _ _).alloc (Nat.le_refl _) _,Nat.le_refl _,heap_alloc_new _ _⟩
theorem z8T (b bt bu:Nat) (w:World):Calls Tryz.prog 176 #[.pointer (some ⟨b,0,none⟩),.func (.func 182) #[] #[.pointer (some ⟨bt,0,none⟩)],.func (.func 183) #[] #[.pointer (some ⟨bu,0,none⟩)]] w fun e w'=>e=.returned (.agg #[.pointer (some ⟨b,0,none⟩),.func (.func 182) #[] #[.pointer (some ⟨bt,0,none⟩)],.func (.func 183) #[] #[.pointer (some ⟨bu,0,none⟩)]])∧Below w.heap.size w w':=by
 have h1:=zfR bt
 have h2:=zff bu
 go_enter Tryz.func176,Tryz.ntmps176
 go_wp2
 exact bodyPost_ret (results_cell_row rfl _ _ w.heap.size 232 _ (0,0) _ rfl (heap_alloc_new w _) Tryz.underlying232 rfl zfD) rfl ⟨rfl,(Below.refl _ _).alloc (Nat.le_refl _) _⟩
theorem z6s (b bl:Nat) (w:World):Calls Tryz.prog 179 #[.pointer (some ⟨b,0,none⟩),.func (.func 184) #[] #[.pointer (some ⟨bl,0,none⟩)],.func (.func 181) #[] #[]] w fun e w'=>e=.returned (.agg #[.pointer (some ⟨b,0,none⟩),.func (.func 184) #[] #[.pointer (some ⟨bl,0,none⟩)],.func (.func 181) #[] #[]])∧Below w.heap.size w w':=by
 have h1:=zfF bl
 have h2:=zfe
 go_enter Tryz.func179,Tryz.ntmps179
 go_wp2
 exact bodyPost_ret (results_cell_row rfl _ _ w.heap.size 236 _ (0,0) _ rfl (heap_alloc_new w _) Tryz.underlying236 rfl zeY) rfl ⟨rfl,(Below.refl _ _).alloc (Nat.le_refl _) _⟩
theorem z9l {u:World}{s ty:Nat}{a0 a1 a2 a3 a4 a5 a6 a7:Value}(h:u.heap[s]?=some (.cells #[a0,a1,a2,a3,a4,a5,a6,a7] ty (0,0))) (x0 x1 x2 x3 x4 x5 x6 x7:Value):
  ((((((((u.setCell ⟨s,0,none⟩ x0).setCell ⟨s,1,none⟩ x1).setCell ⟨s,2,none⟩ x2).setCell ⟨s,3,none⟩ x3).setCell ⟨s,4,none⟩ x4).setCell ⟨s,5,none⟩ x5).setCell ⟨s,6,none⟩ x6).setCell ⟨s,7,none⟩ x7).heap[s]?=some (.cells #[x0,x1,x2,x3,x4,x5,x6,x7] ty (0,0)):=by
 have h0:(u.setCell ⟨s,0,none⟩ x0).heap[s]?=some (.cells #[x0,a1,a2,a3,a4,a5,a6,a7] ty (0,0)):=z05 h 0 x0
 have h1:((u.setCell ⟨s,0,none⟩ x0).setCell ⟨s,1,none⟩ x1).heap[s]?=some (.cells #[x0,x1,a2,a3,a4,a5,a6,a7] ty (0,0)):=z05 h0 1 x1
 have h2:(((u.setCell ⟨s,0,none⟩ x0).setCell ⟨s,1,none⟩ x1).setCell ⟨s,2,none⟩ x2).heap[s]?=some (.cells #[x0,x1,x2,a3,a4,a5,a6,a7] ty (0,0)):=z05 h1 2 x2
 have h3:((((u.setCell ⟨s,0,none⟩ x0).setCell ⟨s,1,none⟩ x1).setCell ⟨s,2,none⟩ x2).setCell ⟨s,3,none⟩ x3).heap[s]?=some (.cells #[x0,x1,x2,x3,a4,a5,a6,a7] ty (0,0)):=z05 h2 3 x3
 have h4:(((((u.setCell ⟨s,0,none⟩ x0).setCell ⟨s,1,none⟩ x1).setCell ⟨s,2,none⟩ x2).setCell ⟨s,3,none⟩ x3).setCell ⟨s,4,none⟩ x4).heap[s]?=some (.cells #[x0,x1,x2,x3,x4,a5,a6,a7] ty (0,0)):=z05 h3 4 x4
 have h5:((((((u.setCell ⟨s,0,none⟩ x0).setCell ⟨s,1,none⟩ x1).setCell ⟨s,2,none⟩ x2).setCell ⟨s,3,none⟩ x3).setCell ⟨s,4,none⟩ x4).setCell ⟨s,5,none⟩ x5).heap[s]?=some (.cells #[x0,x1,x2,x3,x4,x5,a6,a7] ty (0,0)):=z05 h4 5 x5
 have h6:(((((((u.setCell ⟨s,0,none⟩ x0).setCell ⟨s,1,none⟩ x1).setCell ⟨s,2,none⟩ x2).setCell ⟨s,3,none⟩ x3).setCell ⟨s,4,none⟩ x4).setCell ⟨s,5,none⟩ x5).setCell ⟨s,6,none⟩ x6).heap[s]?=some (.cells #[x0,x1,x2,x3,x4,x5,x6,a7] ty (0,0)):=z05 h5 6 x6
 have h7:((((((((u.setCell ⟨s,0,none⟩ x0).setCell ⟨s,1,none⟩ x1).setCell ⟨s,2,none⟩ x2).setCell ⟨s,3,none⟩ x3).setCell ⟨s,4,none⟩ x4).setCell ⟨s,5,none⟩ x5).setCell ⟨s,6,none⟩ x6).setCell ⟨s,7,none⟩ x7).heap[s]?=some (.cells #[x0,x1,x2,x3,x4,x5,x6,x7] ty (0,0)):=z05 h6 7 x7
 exact h7
theorem z9u {B:Nat}{w u:World}{s:Nat}(h:Below B w u) (hs:B≤s) (x0 x1 x2 x3 x4 x5 x6 x7:Value):
  Below B w ((((((((u.setCell ⟨s,0,none⟩ x0).setCell ⟨s,1,none⟩ x1).setCell ⟨s,2,none⟩ x2).setCell ⟨s,3,none⟩ x3).setCell ⟨s,4,none⟩ x4).setCell ⟨s,5,none⟩ x5).setCell ⟨s,6,none⟩ x6).setCell ⟨s,7,none⟩ x7) :=
 (((((((h.setCell (p:=⟨s,0,none⟩) hs _).setCell (p:=⟨s,1,none⟩) hs _).setCell (p:=⟨s,2,none⟩) hs _).setCell (p:=⟨s,3,none⟩) hs _).setCell (p:=⟨s,4,none⟩) hs _).setCell (p:=⟨s,5,none⟩) hs _).setCell (p:=⟨s,6,none⟩) hs _).setCell (p:=⟨s,7,none⟩) hs _
theorem z3r {u:World}{s k:Nat}(hk:k≠s) (x0 x1 x2 x3 x4 x5 x6 x7:Value):
  ((((((((u.setCell ⟨s,0,none⟩ x0).setCell ⟨s,1,none⟩ x1).setCell ⟨s,2,none⟩ x2).setCell ⟨s,3,none⟩ x3).setCell ⟨s,4,none⟩ x4).setCell ⟨s,5,none⟩ x5).setCell ⟨s,6,none⟩ x6).setCell ⟨s,7,none⟩ x7).heap[k]?=u.heap[k]?:=by
 rw[z03 _ _ hk,z03 _ _ hk,z03 _ _ hk,z03 _ _ hk,z03 _ _ hk,z03 _ _ hk,z03 _ _ hk,z03 _ _ hk]
theorem z8b (b base cap:Nat) (w:World) (hc:cap≤1000):Calls Tryz.prog 170 #[.pointer (some ⟨b,0,none⟩),.int .i64 base,.int .i64 cap] w fun e w'=>∃ bt bu bl,e=.returned (.agg #[.pointer (some ⟨b,0,none⟩),.func (.func 182) #[] #[.pointer (some ⟨bt,0,none⟩)],.func (.func 183) #[] #[.pointer (some ⟨bu,0,none⟩)],.pointer (some ⟨b,0,none⟩),.func (.func 184) #[] #[.pointer (some ⟨bl,0,none⟩)],.func (.func 181) #[] #[],.int .i64 base,.int .i64 cap])∧Below w.heap.size w w'∧w.heap.size≤bt∧w.heap.size≤bu∧w.heap.size≤bl ∧
  w'.heap[bt]?=some (.cells #[.int .i64 ((cap:Int)+1)] 3 (0,0))∧w'.heap[bu]?=some (.cells #[.int .i64 ((cap:Int)+1)] 3 (0,0))∧w'.heap[bl]?=some (.cells #[.int .i64 ((cap:Int)+1)] 3 (0,0)):=by
 go_enter Tryz.func170,Tryz.ntmps170
 go_wp2_with (first
  | (go_at_call 177;refine (z8O _ _).mono ?_;rintro e w1 ⟨bt,rfl,hb1,l1,q1⟩)
  | (go_at_call 178;refine (z73 _ _).mono ?_;rintro e w2 ⟨bu,rfl,hb2,l2,q2⟩)
  | (go_at_call 176;refine (z8T b bt bu _).mono ?_;rintro e w3 ⟨rfl,hb3⟩)
  | (go_at_call 180;refine (z6B _ _).mono ?_;rintro e w4 ⟨bl,rfl,hb4,l4,q4⟩)
  | (go_at_call 179;refine (z6s b bl _).mono ?_;rintro e w5 ⟨rfl,hb5⟩;have hR:=ov hb5 (ov hb4 (ov hb3 (ov hb2 (ov hb1 (heap_alloc_new w _)))));have c8:=blk8 hR;have fz:=frz hR))
 have s1:=hb1.size
 have s2:=hb2.size
 have s3:=hb3.size
 have s4:=hb4.size
 have s0:=Go.Deep.nblk_alloc w (.cells #[.pointer none,.nilFunc,.nilFunc,.pointer none,.nilFunc,.nilFunc,.int .i64 0,.int .i64 0] 238)
 have hA:=((Below.refl w.heap.size w).alloc (Nat.le_refl _) (.cells #[.pointer none,.nilFunc,.nilFunc,.pointer none,.nilFunc,.nilFunc,.int .i64 0,.int .i64 0] 238)).trans ((hb1.mono (by omega)).trans ((hb2.mono (by omega)).trans ((hb3.mono (by omega)).trans ((hb4.mono (by omega)).trans (hb5.mono (by omega))))))
 refine bodyPost_ret (results_cell_row rfl _ _ w.heap.size 238 #[.pointer (some ⟨b,0,none⟩),.func (.func 182) #[] #[.pointer (some ⟨bt,0,none⟩)],.func (.func 183) #[] #[.pointer (some ⟨bu,0,none⟩)],.pointer (some ⟨b,0,none⟩),.func (.func 184) #[] #[.pointer (some ⟨bl,0,none⟩)],.func (.func 181) #[] #[],.int .i64 base,.int .i64 cap] (0,0) _ rfl ?_ Tryz.underlying238 rfl zfG) rfl ⟨bt,bu,bl,rfl,?_,by omega,by omega,by omega,?_,?_,?_⟩
 ·exact z9l hR _ _ _ _ _ _ _ _
 ·exact z9u hA (Nat.le_refl _) _ _ _ _ _ _ _ _
 ·exact (z3r (by omega) _ _ _ _ _ _ _ _).trans (ov hb5 (ov hb4 (ov hb3 (ov hb2 q1))))
 ·exact (z3r (by omega) _ _ _ _ _ _ _ _).trans (ov hb5 (ov hb4 (ov hb3 q2)))
 ·exact (z3r (by omega) _ _ _ _ _ _ _ _).trans (ov hb5 q4)
theorem zbO {w:World}{b bw bs W G:Nat}{ws cs:Nat→Int}(h:Ar w b bw bs W G ws cs) {bt bu bl:Nat}{c:Int}(hx:Bx w bw bs bt bu bl c) {base cap:Nat}(ha:base<W):
  Calls Tryz.prog 171 #[.agg #[.pointer (some ⟨b,0,none⟩),.func (.func 182) #[] #[.pointer (some ⟨bt,0,none⟩)],.func (.func 183) #[] #[.pointer (some ⟨bu,0,none⟩)],.pointer (some ⟨b,0,none⟩),.func (.func 184) #[] #[.pointer (some ⟨bl,0,none⟩)],.func (.func 181) #[] #[],.int .i64 base,.int .i64 cap]] w fun e w'=>(∃ v,e=.returned v)∧Ar w' b bw bs W G (upd ws base 0) cs∧But bw bs w w':=by
 go_enter Tryz.func171,Tryz.ntmps171
 go_wp2_with (go_at_call 175;refine (z3Z (t:=0) (i:=0) (h.alloc _) (hx.alloc _) base ha (z:=0) (by rw[Int.zero_mul];kernel_rfl)).mono ?_;rintro e w1 ⟨rfl,hA,hB⟩)
 go_end0
 exact⟨⟨_,rfl⟩,hA,((But.refl bw bs w).alloc _).trans hB⟩
theorem z4z (c:Int) (w:World) (h1:1≤c) (h2:c≤1000):Calls Tryz.prog 165 #[.int .i64 c] w fun e w'=>e=.returned (.int .i64 (2*c+8))∧w'=w:=by
 go_enter Tryz.func165,Tryz.ntmps165
 go_wp2
 go_ret
 exact⟨by first|rfl|go_num|(simp;omega),rfl⟩
theorem zdT {w:World}{b bw bs W G:Nat}{ws cs:Nat→Int}(h:Ar w b bw bs W G ws cs) (base cap:Nat) (h1:1≤cap) (h2:cap≤1000) (h3:base+(2*cap+8)≤W) (hG:G≤12) (hW:W≤65536):
  Calls Tryz.prog 168 #[.pointer (some ⟨b,0,none⟩),.int .i64 base,.int .i64 cap] w fun e w'=>∃ s bt bu bl,e=.returned (.tuple #[.pointer (some ⟨s,0,none⟩),.int .i64 0]) ∧
   Stk w' (fun k=>k=b∨k=bw∨k=bs∨w.heap.size≤k∧k<w'.heap.size) s b bw bs bt bu bl W G base cap (upd ws base 0) cs (fun _=>.idle) (fun _=>0)∧Bt (fun k=>k=bw∨k=bs) w w':=by
 have hw:=z3j h
 have e1:decide ((W:Int)-(2*(cap:Int)+8)<(base:Int))=false:=by simp;omega
 have hlt:=h.lts
 have hb0:=h.lt
 have key:∀ w2 bt bu bl,Below w.heap.size w w2→w.heap.size≤bt→w.heap.size≤bu→w.heap.size≤bl→w2.heap[bt]?=some (.cells #[.int .i64 ((cap:Int)+1)] 3 (0,0))→w2.heap[bu]?=some (.cells #[.int .i64 ((cap:Int)+1)] 3 (0,0))→w2.heap[bl]?=some (.cells #[.int .i64 ((cap:Int)+1)] 3 (0,0))→Bx w2 bw bs bt bu bl ((cap:Int)+1) :=
  fun w2 bt bu bl _ l1 l2 l3 q1 q2 q3=>⟨q1,q2,q3,by omega,by omega,by omega,by omega,by omega,by omega⟩
 go_enter Tryz.func168,Tryz.ntmps168
 go_wp2_with (first
  | (go_at_call 131;refine hw.mono ?_;rintro e w1 ⟨rfl,rfl⟩)
  | (go_at_call 165;refine (z4z _ _ (by omega) (by omega)).mono ?_;rintro e w1 ⟨rfl,rfl⟩)
  | (go_at_call 170;refine (z8b b base cap _ h2).mono ?_;rintro e w2 ⟨bt,bu,bl,rfl,hb2,l1,l2,l3,q1,q2,q3⟩;have hX:=key _ _ _ _ hb2 l1 l2 l3 q1 q2 q3;have hA2:=h.below hb2)
  | (go_at_call 171;refine (zbO (hA2.alloc _) (hX.alloc _) (by omega)).mono ?_;rintro e w3 ⟨⟨ev,rfl⟩,hA3,hB3⟩))
 go_ret2
 have hS0:=heap_alloc_new w2 (.cells #[.pointer (some ⟨b,0,none⟩),.pointer (some ⟨b,0,none⟩),.func (.func 182) #[] #[.pointer (some ⟨bt,0,none⟩)],.func (.func 183) #[] #[.pointer (some ⟨bu,0,none⟩)],.pointer (some ⟨b,0,none⟩),.func (.func 184) #[] #[.pointer (some ⟨bl,0,none⟩)],.func (.func 181) #[] #[],.int .i64 base,.int .i64 cap,.nilIface,.int .i64 0,.nilIface,.int .i64 0,.nilIface,.int .i64 0,.nilIface,.int .i64 0,.nilIface,.int .i64 0,.nilIface,.int .i64 0,.nilIface,.int .i64 0,.nilIface,.int .i64 0,.nilIface,.int .i64 0,.nilIface,.int .i64 0,.nilIface,.int .i64 0,.nilIface,.int .i64 0] 246)
 have s2:=hb2.size
 have s3:=hB3.size
 rw[Go.Deep.nblk_alloc] at s3
 have hS3:=(hB3.block _ (by rw[Go.Deep.nblk_alloc];omega) (by omega) (by omega)).trans hS0
 have hBt:Bt (fun k=>k=bw∨k=bs) _ w3:=((Bt.of_below hb2).alloc _).trans (Bt.of_but hB3 (.inl rfl) (.inr rfl))
 refine⟨_,bt,bu,bl,rfl,⟨hA3,(hX.alloc _).but hB3,⟨_,hS3,rfl,fun i hi=>?_⟩,fun _ _=>trivial,fun _ _ _ _ _ q=>absurd rfl q,fun _ _=>rfl,⟨.inr (.inr (.inr ⟨by omega,by omega⟩)),.inl rfl,.inr (.inl rfl),.inr (.inr (.inl rfl)),.inr (.inr (.inr ⟨l1,?_⟩)),.inr (.inr (.inr ⟨l2,?_⟩)),.inr (.inr (.inr ⟨l3,?_⟩))⟩,fun k hk=>?_,hG,hW,by omega,h1,h2⟩,hBt⟩
 ·obtain rfl|rfl|rfl|rfl|rfl|rfl|rfl|rfl|rfl|rfl|rfl|rfl|rfl|rfl|rfl|rfl|rfl|rfl|rfl|rfl|rfl|rfl|rfl|rfl|rfl|rfl|rfl|rfl|rfl|rfl|rfl|rfl|rfl:i=0∨i=1∨i=2∨i=3∨i=4∨i=5∨i=6∨i=7∨i=8∨i=9∨i=10∨i=11∨i=12∨i=13∨i=14∨i=15∨i=16∨i=17∨i=18∨i=19∨i=20∨i=21∨i=22∨i=23∨i=24∨i=25∨i=26∨i=27∨i=28∨i=29∨i=30∨i=31∨i=32:=by omega
  all_goals rfl
 ·have:=z02 q1;omega
 ·have:=z02 q2;omega
 ·have:=z02 q3;omega
 ·rcases hk with rfl|rfl|rfl|hk
  ·omega
  ·omega
  ·omega
  ·exact hk.2
structure Zone where
 b:Nat
 W:Nat
 base:Nat
 old:Nat→Int
def Good (w:World) (P:Nat→Prop) (s:Nat) (b:Zone) (G cap:Nat) (cs:Nat→Int) (ops:Nat→Op) (T:Int) (xs:List Int):Prop :=
 ∃ (bw bs bt bu bl:Nat) (ws:Nat→Int) (ob:Nat→Nat),Stk w P s b.b bw bs bt bu bl b.W G b.base cap ws cs ops ob∧Inv b.base cap ws ops T xs∧∀ a,a<b.base∨b.base+cap<a→ws a=b.old a
theorem Good.lt {w:World}{P:Nat→Prop}{s:Nat}{b:Zone}{G cap:Nat}{cs:Nat→Int}{ops:Nat→Op}{T:Int}{xs:List Int}(h:Good w P s b G cap cs ops T xs):∀ k,P k→k<w.heap.size:=by obtain⟨_,_,_,_,_,_,_,hS,_⟩:=h;exact hS.lt
theorem Good.keep {w':World}{w:World}{P:Nat→Prop}{s:Nat}{b:Zone}{G cap:Nat}{cs:Nat→Int}{ops:Nat→Op}{T:Int}{xs:List Int}(h:Good w P s b G cap cs ops T xs) (e:∀ k,P k→w'.heap[k]?=w.heap[k]?) (hs:w.heap.size≤w'.heap.size):Good w' P s b G cap cs ops T xs:=by
 obtain⟨bw,bs,bt,bu,bl,ws,ob,hS,hI,hO⟩:=h
 exact⟨bw,bs,bt,bu,bl,ws,ob,hS.keep e hs,hI,hO⟩
theorem Good.below {w':World}{w:World}{P:Nat→Prop}{s:Nat}{b:Zone}{G cap:Nat}{cs:Nat→Int}{ops:Nat→Op}{T:Int}{xs:List Int}(h:Good w P s b G cap cs ops T xs) (e:Below w.heap.size w w'):Good w' P s b G cap cs ops T xs:=h.keep (fun k hk=>e.block k (h.lt k hk)) e.size
theorem Good.put {w:World}{P:Nat→Prop}{s:Nat}{b:Zone}{G cap:Nat}{cs:Nat→Int}{ops:Nat→Op}{T:Int}{xs:List Int}(h:Good w P s b G cap cs ops T xs) {r:Nat}(hr:¬ P r) (i:Nat) (v:Value):Good (w.setCell ⟨r,i,none⟩ v) P s b G cap cs ops T xs :=
 h.keep (fun k hk=>z03 _ _ (by show k≠r;rintro rfl;exact hr hk)) (by simp[World.setCell])
theorem Good.alloc {w:World}{P:Nat→Prop}{s:Nat}{b:Zone}{G cap:Nat}{cs:Nat→Int}{ops:Nat→Op}{T:Int}{xs:List Int}(h:Good w P s b G cap cs ops T xs) (o:Obj):Good (w.alloc o) P s b G cap cs ops T xs:=h.below ((Below.refl _ _).alloc (Nat.le_refl _) o)
theorem Good.range {w:World}{P:Nat→Prop}{s:Nat}{b:Zone}{G cap:Nat}{cs:Nat→Int}{ops:Nat→Op}{T:Int}{xs:List Int}(h:Good w P s b G cap cs ops T xs):(∀ x,x∈xs→1≤x∧x≤cap)∧cap≤1000∧xs.length≤cap∧xs.Nodup∧G≤12:=by
 obtain⟨bw,bs,bt,bu,bl,ws,ob,hS,hI,hO⟩:=h
 exact⟨hI.range,hS.cap2,length_le hI.range hI.nodup,hI.nodup,hS.few⟩
theorem zcZ {ops:Nat→Op}{g:Nat}{op:Op}(h:∀ g h,g≠h→0<(ops g).link→(ops g).link≠(ops h).link) (hn:∀ j,(ops j).link≠op.link):∀ i j,i≠j→0<(z0v ops g op i).link→(z0v ops g op i).link≠(z0v ops g op j).link:=by
 intro i j hij hp
 by_cases e1:i=g
 ·have e2:j≠g:=fun e=>hij (e1.trans e.symm)
  subst e1
  rw[z0C,z0e _ _ e2]
  exact fun q=>hn j q.symm
 ·rw[z0e _ _ e1] at hp ⊢
  by_cases e2:j=g
  ·subst e2;rw[z0C];exact hn i
  ·rw[z0e _ _ e2];exact h i j hij hp
theorem Inv.began {base cap:Nat}{ws:Nat→Int}{ops:Nat→Op}{T:Int}{xs:List Int}(h:Inv base cap ws ops T xs) {g:Nat}{v:Int}(hm:May cap ops xs v):Inv base cap ws (z0v ops g (.push (v+1) 0 0 0)) T xs :=
 ⟨h.t0,h.top,h.chain,h.range,h.nodup,fun j=>z57 ⟨by have:=hm.1;omega,by have:=hm.2.1;omega,hm.2.2.2,.inl rfl⟩ (fun _=>h.op j),zcZ h.diff hm.2.2.1⟩
def Wider (P P':Nat→Prop) (w:World):Prop:=∀ k,P' k→P k∨w.heap.size≤k
theorem Wider.refl (P:Nat→Prop) (w:World):Wider P P w:=fun _ hk=>.inl hk
theorem Wider.trans {P Q R:Nat→Prop}{w w':World}(h:Wider P Q w) (k:Wider Q R w') (hs:w.heap.size≤w'.heap.size):Wider P R w:=fun j hj=>(k j hj).elim (h j) (fun q=>.inr (by omega))
theorem Bt.wide {P Q:Nat→Prop}{w w1 w2:World}(h:Bt P w w1) (k:Bt Q w1 w2) (hw:Wider P Q w):Bt P w w2 :=
 ⟨k.os.trans h.os,k.tape.trans h.tape,k.output.trans h.output,Nat.le_trans h.size k.size,fun j hj e=>(k.block j (Nat.lt_of_lt_of_le hj h.size) (fun hq=>(hw j hq).elim e (fun q=>by omega))).trans (h.block j hj e)⟩
theorem z5X {w:World}{P:Nat→Prop}{s:Nat}{b:Zone}{G cap:Nat}{cs:Nat→Int}{ops:Nat→Op}{T:Int}{xs:List Int}(h:Good w P s b G cap cs ops T xs) (hT:T≤1000000000) (g:Nat) (v:Int) (hg:g<G) (hb:ops g=.idle) (hm:May cap ops xs v):
  Calls Tryz.prog 242 #[.pointer (some ⟨s,0,none⟩),.int .i64 g,.int .i64 0,.int .i64 v] w fun e w'=>e=.returned (.int .i64 0)∧∃ P',Good w' P' s b G cap cs (z0v ops g (.push (v+1) 0 0 0)) T xs∧Bt P w w'∧Wider P P' w:=by
 obtain⟨bw,bs,bt,bu,bl,ws,ob,hS,hI,hO⟩:=h
 refine (z8v hS hI hT g v hg hb hm).mono ?_
 rintro e w' ⟨P',ob',rfl,hS',hB,hw⟩
 exact⟨rfl,P',⟨_,_,_,_,_,_,_,hS',hI.began hm,hO⟩,hB,hw⟩
theorem z6S {w:World}{P:Nat→Prop}{s:Nat}{b:Zone}{G cap:Nat}{cs:Nat→Int}{ops:Nat→Op}{T:Int}{xs:List Int}(h:Good w P s b G cap cs ops T xs) (g:Nat) (v:Int) (hg:g<G) (hb:ops g=.idle):
  Calls Tryz.prog 242 #[.pointer (some ⟨s,0,none⟩),.int .i64 g,.int .i64 1,.int .i64 v] w fun e w'=>e=.returned (.int .i64 0)∧∃ P',Good w' P' s b G cap cs (z0v ops g (.pop 0 0 0 0)) T xs∧Bt P w w'∧Wider P P' w:=by
 obtain⟨bw,bs,bt,bu,bl,ws,ob,hS,hI,hO⟩:=h
 refine (za3 hS g v hg hb).mono ?_
 rintro e w' ⟨P',ob',rfl,hS',hB,hw⟩
 exact⟨rfl,P',⟨_,_,_,_,_,_,_,hS',hI.looked (.inl rfl) (.inl rfl),hO⟩,hB,hw⟩
theorem zdp {w:World}{P:Nat→Prop}{s:Nat}{b:Zone}{G cap:Nat}{cs:Nat→Int}{ops:Nat→Op}{T:Int}{xs:List Int}(h:Good w P s b G cap cs ops T xs) (hT:T≤1000000000) (g:Nat) (hg:g<G) (hb:ops g≠.idle):
  Calls Tryz.prog 243 #[.pointer (some ⟨s,0,none⟩),.int .i64 g] w fun e w'=>∃ (done:Bool) (v:Int) (ok:Bool) (op':Op) (T':Int) (xs':List Int),e=.returned (.tuple #[.bool done,.int .i64 v,.bool ok,.int .i64 0]) ∧
   Good w' P s b G cap (upd cs g (wrap64 (cs g+1))) (z0v ops g op') T' xs'∧Bt P w w'∧Eff T xs (ops g) done v ok op' T' xs':=by
 obtain⟨bw,bs,bt,bu,bl,ws,ob,hS,hI,hO⟩:=h
 refine (zbt hS hI hT g hg hb).mono ?_
 rintro e w' ⟨done,v,ok,ws',op',T',xs',rfl,hS',hB,hI',hE,hO'⟩
 exact⟨done,v,ok,op',T',xs',rfl,⟨_,_,_,_,_,_,_,hS',hI',fun a ha=>(hO' a ha).trans (hO a ha)⟩,hB,hE⟩
theorem z3V {ops:Nat→Op}{g:Nat}(h:ops g=.idle):z0v ops g .idle=ops:=by funext j;unfold z0v;split<;>simp_all
end Go.Proofs.YthkelaeemefnaaaGreat
