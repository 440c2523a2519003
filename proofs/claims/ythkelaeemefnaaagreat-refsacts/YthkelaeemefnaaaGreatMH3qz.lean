import Derived.Test.YthkelaeemefnaaaGreatMY24
set_option maxRecDepth 20000
namespace Go.Proofs.YthkelaeemefnaaaGreat
open Go.RowKit
section
variable {w:World}{h W G:Nat}{c:Int→Int}{room:Int}{S:List (Option Cel)}{X:Hx}
theorem HpM.find_some (H:HpM w h W G c room (z0y X.so X.s S) X) (hL:S.length<100000) {i:Nat}{cl:Cel}(hi:S[i]?=some (some cl)) (t:Int) (ht:t=(i:Int)+1):
  Calls Tryz.prog 95 #[.pointer (some ⟨h,3,none⟩),.int .i64 t] w fun e w'=>e=.returned (.tuple #[.agg #[.int .i64 cl.kind,.int .i64 cl.cls,.int .i64 cl.n,.iface (kty cl) (kvl X.so X.s cl),.int .i64 cl.at_],.bool true])∧Below w.heap.size w w':=by
 obtain⟨j,j1,_,_⟩:=z4Q X.so X.s hi
 exact zc3 H.five.2.2.1 H.cells (z2B _ _ S) (z0r 0 S) (Nat.lt_of_le_of_lt (z2w S) hL) j1 t ht
theorem HpM.find_none (H:HpM w h W G c room (z0y X.so X.s S) X) (hL:S.length<100000) (t:Int) (hn:∀ (i:Nat) (cl:Cel),t=(i:Int)+1→S[i]?≠some (some cl)):
  Calls Tryz.prog 95 #[.pointer (some ⟨h,3,none⟩),.int .i64 t] w fun e w'=>e=.returned (.tuple #[.agg #[.int .i64 0,.int .i64 0,.int .i64 0,.nilIface,.int .i64 0],.bool false])∧Below w.heap.size w w' :=
 zcc H.five.2.2.1 H.cells (z2B _ _ S) (z0r 0 S) (by have:=z2w S;omega) t (zbQ S t hn)
theorem z4Z {w:World}{z ty:Nat}{a b c d e:Value}(h:w.heap[z]?=some (.cells #[a,b,c,d,e] ty (0,0))):(w.cell? ⟨z,0,none⟩=some a∧w.cell? ⟨z,1,none⟩=some b∧w.cell? ⟨z,2,none⟩=some c∧w.cell? ⟨z,3,none⟩=some d∧w.cell? ⟨z,4,none⟩=some e)∧∀ j,w.frozen? ⟨z,j,none⟩=false:=by
 simp[World.cell?,World.frozen?,h]
theorem z8Z (H:HpM w h W G c room (z0y X.so X.s S) X) (hL:S.length<100000) {i:Nat}{cl:Cel}(hi:S[i]?=some (some cl)) (g t:Int) (ht:t=(i:Int)+1) (hg:0≤g∧g<G):
  Calls Tryz.prog 118 #[.pointer (some ⟨h,0,none⟩),.int .i64 g,.int .i64 t] w fun e w'=>e=.returned (.tuple #[.agg #[.int .i64 cl.kind,.int .i64 cl.cls,.int .i64 cl.n,.iface (kty cl) (kvl X.so X.s cl),.int .i64 cl.at_],.int .i64 0])∧Below w.heap.size w w':=by
 have hh:=H.h_lt
 have hb0:=(Below.refl w.heap.size w).alloc (Nat.le_refl _) (.cells #[.int .i64 0,.int .i64 0,.int .i64 0,.nilIface,.int .i64 0] 137)
 have hz0:=heap_alloc_new w (.cells #[.int .i64 0,.int .i64 0,.int .i64 0,.nilIface,.int .i64 0] 137)
 have hF:=(H.below hb0).find_some hL hi t ht
 have hc1:∀ w1,Below w.heap.size w w1→w1.cell? ⟨h,0,none⟩=some (.pointer (some ⟨X.b,0,none⟩))∧h<w1.heap.size:=fun w1 hb=>⟨(H.below hb).five.1,(H.below hb).h_lt⟩
 have hA:=fun w1 (hb:Below w.heap.size w w1)=>(H.below hb).agent g true (by simpa using hg)
 have HB:Hid (∀ w1,Below (w.alloc (.cells #[.int .i64 0,.int .i64 0,.int .i64 0,.nilIface,.int .i64 0] 137)).heap.size (w.alloc (.cells #[.int .i64 0,.int .i64 0,.int .i64 0,.nilIface,.int .i64 0] 137)) w1→Below w.heap.size w w1∧w1.heap[w.heap.size]?=some (.cells #[.int .i64 0,.int .i64 0,.int .i64 0,.nilIface,.int .i64 0] 137 (0,0))):=fun w1 hb =>
  ⟨hb0.trans (hb.mono hb0.size),(hb.block _ (by rw[Go.Deep.nblk_alloc];omega)).trans hz0⟩
 generalize kty cl=ty at *
 generalize kvl X.so X.s cl=d at *
 clear H hi hg ht hb0 hz0
 go_enter Tryz.func118,Tryz.ntmps118
 go_wp2_with (first
  | (go_at_call 95;refine hF.mono ?_;rintro e w1 ⟨rfl,hb⟩;obtain⟨hb1,hz1⟩:=HB.out w1 hb;have k1:=hc1 w1 hb1;have k2:=z4Z hz1;have k3:=z02 hz1;clear hF hb)
  | (go_at_call 115;refine (hA _ (z07 hb1 _)).mono ?_;rintro e w9 ⟨rfl,hw9⟩;replace hw9:=hw9.symm;subst hw9))
 exact bodyPost_ret (z0j rfl _ _ w.heap.size 137 _ (0,0) _ rfl (z01 (z1f hz1) _) Tryz.underlying137 rfl z4D) rfl ⟨rfl,z07 (z0F hb1 (Nat.le_refl _)) _⟩
def Gone (G:Nat) (S:List (Option Cel)) (g t:Int):Prop:=¬ ((0≤g∧g<G)∧∃ (i:Nat) (cl:Cel),t=(i:Int)+1∧S[i]?=some (some cl))
theorem z8g (H:HpM w h W G c room (z0y X.so X.s S) X) (hL:S.length<100000) (g t:Int) (hg:Gone G S g t):
  Calls Tryz.prog 118 #[.pointer (some ⟨h,0,none⟩),.int .i64 g,.int .i64 t] w fun e w'=>e=.returned (.tuple #[.agg #[.int .i64 0,.int .i64 0,.int .i64 0,.nilIface,.int .i64 0],.int .i64 904])∧Below w.heap.size w w':=by
 have hh:=H.h_lt
 have hb0:=(Below.refl w.heap.size w).alloc (Nat.le_refl _) (.cells #[.int .i64 0,.int .i64 0,.int .i64 0,.nilIface,.int .i64 0] 137)
 have hz0:=heap_alloc_new w (.cells #[.int .i64 0,.int .i64 0,.int .i64 0,.nilIface,.int .i64 0] 137)
 have hc1:∀ w1,Below w.heap.size w w1→w1.cell? ⟨h,0,none⟩=some (.pointer (some ⟨X.b,0,none⟩))∧h<w1.heap.size:=fun w1 hb=>⟨(H.below hb).five.1,(H.below hb).h_lt⟩
 have HB:Hid (∀ w1,Below (w.alloc (.cells #[.int .i64 0,.int .i64 0,.int .i64 0,.nilIface,.int .i64 0] 137)).heap.size (w.alloc (.cells #[.int .i64 0,.int .i64 0,.int .i64 0,.nilIface,.int .i64 0] 137)) w1→Below w.heap.size w w1∧w1.heap[w.heap.size]?=some (.cells #[.int .i64 0,.int .i64 0,.int .i64 0,.nilIface,.int .i64 0] 137 (0,0))):=fun w1 hb =>
  ⟨hb0.trans (hb.mono hb0.size),(hb.block _ (by rw[Go.Deep.nblk_alloc];omega)).trans hz0⟩
 by_cases hs:∃ (i:Nat) (cl:Cel),t=(i:Int)+1∧S[i]?=some (some cl)
 ·have hA:=fun w1 (hb:Below w.heap.size w w1)=>(H.below hb).agent g false (by have:¬ (0≤g∧g<(G:Int)):=fun q=>hg ⟨q,hs⟩;simpa using this)
  obtain⟨i,cl,ht,hi⟩:=hs
  have hF:=(H.below hb0).find_some hL hi t ht
  generalize kty cl=ty at *
  generalize kvl X.so X.s cl=d at *
  clear H hi hg ht hb0 hz0
  go_enter Tryz.func118,Tryz.ntmps118
  go_wp2_with (first
   | (go_at_call 95;refine hF.mono ?_;rintro e w1 ⟨rfl,hb⟩;obtain⟨hb1,hz1⟩:=HB.out w1 hb;have k1:=hc1 w1 hb1;have k2:=z4Z hz1;have k3:=z02 hz1;clear hF hb)
   | (go_at_call 115;refine (hA _ (z07 hb1 _)).mono ?_;rintro e w9 ⟨rfl,hw9⟩;replace hw9:=hw9.symm;subst hw9))
  exact bodyPost_ret (z0j rfl _ _ w.heap.size 137 _ (0,0) _ rfl (z01 (z1f hz1) _) Tryz.underlying137 rfl z4D) rfl ⟨rfl,z07 (z0F hb1 (Nat.le_refl _)) _⟩
 ·have hF:=(H.below hb0).find_none hL t (fun i cl e hi=>hs ⟨i,cl,e,hi⟩)
  clear H hg hs hb0 hz0
  go_enter Tryz.func118,Tryz.ntmps118
  go_wp2_with (first
   | (go_at_call 95;refine hF.mono ?_;rintro e w1 ⟨rfl,hb⟩;obtain⟨hb1,hz1⟩:=HB.out w1 hb;have k1:=hc1 w1 hb1;have k2:=z4Z hz1;have k3:=z02 hz1;clear hF hb))
  exact bodyPost_ret (z0j rfl _ _ w.heap.size 137 _ (0,0) _ rfl (z01 (z1f hz1) _) Tryz.underlying137 rfl z4D) rfl ⟨rfl,z07 (z0F hb1 (Nat.le_refl _)) _⟩
theorem z2q (g t i:Int) {x y z u:Int}{ty:TypeId}{d:Value}(hi:0≤i∧i<z) (hA:∀ w1,Below w.heap.size w w1→Calls Tryz.prog 118 #[.pointer (some ⟨h,0,none⟩),.int .i64 g,.int .i64 t] w1 fun e w'=>e=.returned (.tuple #[.agg #[.int .i64 x,.int .i64 y,.int .i64 z,.iface ty d,.int .i64 u],.int .i64 0])∧Below w1.heap.size w1 w'):
  Calls Tryz.prog 96 #[.pointer (some ⟨h,0,none⟩),.int .i64 g,.int .i64 t,.int .i64 i] w fun e w'=>e=.returned (.tuple #[.agg #[.int .i64 x,.int .i64 y,.int .i64 z,.iface ty d,.int .i64 u],.int .i64 0])∧Below w.heap.size w w':=by
 have hb0:=(Below.refl w.heap.size w).alloc (Nat.le_refl _) (.cells #[.int .i64 0,.int .i64 0,.int .i64 0,.nilIface,.int .i64 0] 137)
 have hz0:=heap_alloc_new w (.cells #[.int .i64 0,.int .i64 0,.int .i64 0,.nilIface,.int .i64 0] 137)
 have HB:Hid (∀ w1,Below (w.alloc (.cells #[.int .i64 0,.int .i64 0,.int .i64 0,.nilIface,.int .i64 0] 137)).heap.size (w.alloc (.cells #[.int .i64 0,.int .i64 0,.int .i64 0,.nilIface,.int .i64 0] 137)) w1→Below w.heap.size w w1∧w1.heap[w.heap.size]?=some (.cells #[.int .i64 0,.int .i64 0,.int .i64 0,.nilIface,.int .i64 0] 137 (0,0))):=fun w1 hb =>
  ⟨hb0.trans (hb.mono hb0.size),(hb.block _ (by rw[Go.Deep.nblk_alloc];omega)).trans hz0⟩
 have hA0:=hA _ hb0
 have i1:decide (i<0)=false:=by simp;omega
 have i2:decide (z≤i)=false:=by simp;omega
 clear hA hb0 hz0
 go_enter Tryz.func96,Tryz.ntmps96
 go_wp2_with (go_at_call 118;refine hA0.mono ?_;rintro e w1 ⟨rfl,hb⟩;obtain⟨hb1,hz1⟩:=HB.out w1 hb;have k2:=z4Z hz1;have k3:=z02 hz1;clear hA0 hb)
 exact bodyPost_ret (z0j rfl _ _ w.heap.size 137 _ (0,0) _ rfl (z01 (z1f hz1) _) Tryz.underlying137 rfl z4D) rfl ⟨rfl,z07 (z0F hb1 (Nat.le_refl _)) _⟩
theorem z55 (g t i:Int) {x y z u:Int}{ty:TypeId}{d:Value}(hi:¬ (0≤i∧i<z)) (hA:∀ w1,Below w.heap.size w w1→Calls Tryz.prog 118 #[.pointer (some ⟨h,0,none⟩),.int .i64 g,.int .i64 t] w1 fun e w'=>e=.returned (.tuple #[.agg #[.int .i64 x,.int .i64 y,.int .i64 z,.iface ty d,.int .i64 u],.int .i64 0])∧Below w1.heap.size w1 w'):
  Calls Tryz.prog 96 #[.pointer (some ⟨h,0,none⟩),.int .i64 g,.int .i64 t,.int .i64 i] w fun e w'=>e=.returned (.tuple #[.agg #[.int .i64 0,.int .i64 0,.int .i64 0,.nilIface,.int .i64 0],.int .i64 903])∧Below w.heap.size w w':=by
 have hb0:=(Below.refl w.heap.size w).alloc (Nat.le_refl _) (.cells #[.int .i64 0,.int .i64 0,.int .i64 0,.nilIface,.int .i64 0] 137)
 have hz0:=heap_alloc_new w (.cells #[.int .i64 0,.int .i64 0,.int .i64 0,.nilIface,.int .i64 0] 137)
 have HB:Hid (∀ w1,Below (w.alloc (.cells #[.int .i64 0,.int .i64 0,.int .i64 0,.nilIface,.int .i64 0] 137)).heap.size (w.alloc (.cells #[.int .i64 0,.int .i64 0,.int .i64 0,.nilIface,.int .i64 0] 137)) w1→Below w.heap.size w w1∧w1.heap[w.heap.size]?=some (.cells #[.int .i64 0,.int .i64 0,.int .i64 0,.nilIface,.int .i64 0] 137 (0,0))):=fun w1 hb =>
  ⟨hb0.trans (hb.mono hb0.size),(hb.block _ (by rw[Go.Deep.nblk_alloc];omega)).trans hz0⟩
 have hA0:=hA _ hb0
 clear hA hb0 hz0
 by_cases i1:i<0
 ·clear hi
  go_enter Tryz.func96,Tryz.ntmps96
  go_wp2_with (go_at_call 118;refine hA0.mono ?_;rintro e w1 ⟨rfl,hb⟩;obtain⟨hb1,hz1⟩:=HB.out w1 hb;have k2:=z4Z hz1;have k3:=z02 hz1;clear hA0 hb)
  exact bodyPost_ret (z0j rfl _ _ w.heap.size 137 _ (0,0) _ rfl (z01 (z1f hz1) _) Tryz.underlying137 rfl z4D) rfl ⟨rfl,z07 (z0F hb1 (Nat.le_refl _)) _⟩
 ·have i1':decide (i<0)=false:=by simp;omega
  have i2:z≤i:=by omega
  clear hi i1
  go_enter Tryz.func96,Tryz.ntmps96
  go_wp2_with (go_at_call 118;refine hA0.mono ?_;rintro e w1 ⟨rfl,hb⟩;obtain⟨hb1,hz1⟩:=HB.out w1 hb;have k2:=z4Z hz1;have k3:=z02 hz1;clear hA0 hb)
  exact bodyPost_ret (z0j rfl _ _ w.heap.size 137 _ (0,0) _ rfl (z01 (z1f hz1) _) Tryz.underlying137 rfl z4D) rfl ⟨rfl,z07 (z0F hb1 (Nat.le_refl _)) _⟩
theorem z80 (g t i:Int) (hA:∀ w1,Below w.heap.size w w1→Calls Tryz.prog 118 #[.pointer (some ⟨h,0,none⟩),.int .i64 g,.int .i64 t] w1 fun e w'=>e=.returned (.tuple #[.agg #[.int .i64 0,.int .i64 0,.int .i64 0,.nilIface,.int .i64 0],.int .i64 904])∧Below w1.heap.size w1 w'):
  Calls Tryz.prog 96 #[.pointer (some ⟨h,0,none⟩),.int .i64 g,.int .i64 t,.int .i64 i] w fun e w'=>e=.returned (.tuple #[.agg #[.int .i64 0,.int .i64 0,.int .i64 0,.nilIface,.int .i64 0],.int .i64 904])∧Below w.heap.size w w':=by
 have hb0:=(Below.refl w.heap.size w).alloc (Nat.le_refl _) (.cells #[.int .i64 0,.int .i64 0,.int .i64 0,.nilIface,.int .i64 0] 137)
 have hz0:=heap_alloc_new w (.cells #[.int .i64 0,.int .i64 0,.int .i64 0,.nilIface,.int .i64 0] 137)
 have HB:Hid (∀ w1,Below (w.alloc (.cells #[.int .i64 0,.int .i64 0,.int .i64 0,.nilIface,.int .i64 0] 137)).heap.size (w.alloc (.cells #[.int .i64 0,.int .i64 0,.int .i64 0,.nilIface,.int .i64 0] 137)) w1→Below w.heap.size w w1∧w1.heap[w.heap.size]?=some (.cells #[.int .i64 0,.int .i64 0,.int .i64 0,.nilIface,.int .i64 0] 137 (0,0))):=fun w1 hb =>
  ⟨hb0.trans (hb.mono hb0.size),(hb.block _ (by rw[Go.Deep.nblk_alloc];omega)).trans hz0⟩
 have hA0:=hA _ hb0
 clear hA hb0 hz0
 go_enter Tryz.func96,Tryz.ntmps96
 go_wp2_with (go_at_call 118;refine hA0.mono ?_;rintro e w1 ⟨rfl,hb⟩;obtain⟨hb1,hz1⟩:=HB.out w1 hb;have k2:=z4Z hz1;have k3:=z02 hz1;clear hA0 hb)
 exact bodyPost_ret (z0j rfl _ _ w.heap.size 137 _ (0,0) _ rfl (z01 (z1f hz1) _) Tryz.underlying137 rfl z4D) rfl ⟨rfl,z07 (z0F hb1 (Nat.le_refl _)) _⟩
end
end Go.Proofs.YthkelaeemefnaaaGreat
namespace Go.Proofs.YthkelaeemefnaaaGreat
open Go.RowKit
theorem z2o (p : Addr) (w : World) : (Go.method 445 150 (.pointer (some p)) "Load").run Tryz.prog w = .ok (208, .pointer (some p)) w := by kernel_rfl
theorem z2C (v : Value) (w : World) : (Go.method 445 153 (.agg #[v]) "Load").run Tryz.prog w = .ok (272, .agg #[v]) w := by kernel_rfl
theorem z34 (p : Addr) (w : World) : (Go.method 445 150 (.pointer (some p)) "Put").run Tryz.prog w = .ok (210, .pointer (some p)) w := by kernel_rfl
theorem z37 (v : Value) (w : World) : (Go.method 445 153 (.agg #[v]) "Put").run Tryz.prog w = .ok (274, .agg #[v]) w := by kernel_rfl
section
variable {w w':World}{h W G m:Nat}{c:Int→Int}{S:List (Option Cel)}{F:Nat→Nat→Int}{X:Hx}
theorem HpC.store_same (H:HpC w h W G m c S F X) (hm:m≤2000000) {P2:Nat→Prop}{cs ws:Nat→Int}{F':Nat→Nat→Int}(hS:Sto w' P2 X.so X.mb X.p X.b W 0 X.N G cs X.T X.xs ws X.nn X.D X.O) (hB:Bt X.P2 w w') (hW:Wider X.P2 P2 w) (hz:∀ a,9*X.N≤a→ws a=X.ws a) (hg:Grew (natf c) cs 300)
  (hl:∀ V,(∀ t,t≠-1→∀ i,V t i=X.V t i)→Lnk S F' X.O ws X.q.xs V):HpT w h W G (m+1) (intf cs) S F' X w':=by
 obtain⟨P1,V,hM,hV,hB2,hW2⟩:=H.mem.store hS hB hW hz
 have hf:=H.few
 refine⟨{ X with P1:=P1,P2:=P2,ws:=ws,V:=V },⟨hM,H.tab,hl V hV,H.enough,H.big,H.fit,H.half,H.calm,⟨?_,?_,?_,by omega⟩,?_⟩,hB2,hW2⟩
 ·show 25*X.T≤((m+1:Nat):Int);omega
 ·show 500*X.nn≤m+1;omega
 ·show 500*X.q.given≤((m+1:Nat):Int);omega
 ·rw[z1l]
  exact (hg _ (by omega) (by omega) H.cnt).mono (by omega)
theorem HpC.space_same (H:HpC w h W G m c S F X) {V:Int→Int→Int}{c':Int→Int}{g:Int}{F':Nat→Nat→Int}(ht:SpTurn w X.P1 X.s X.b W G X.q V c' w') (hV:∀ a,V (-1) a=X.V (-1) a) (hu:Up c c' g 12)
  (hl:∀ ws,(∀ a,a<9*X.N→ws a=X.ws a)→Lnk S F' X.O ws X.q.xs V):HpT w h W G (m+1) c' S F' X w':=by
 obtain⟨P1,ws,hM,hw,hB2,hW2⟩:=H.mem.space ht rfl rfl hV
 have hf:=H.few
 refine⟨{ X with P1:=P1,ws:=ws,V:=V },⟨hM,H.tab,hl ws hw,H.enough,H.big,H.fit,H.half,H.calm,⟨?_,?_,?_,by omega⟩,?_⟩,hB2,hW2⟩
 ·show 25*X.T≤((m+1:Nat):Int);omega
 ·show 500*X.nn≤m+1;omega
 ·show 500*X.q.given≤((m+1:Nat):Int);omega
 ·exact (zdv H.cnt hu (by omega)).mono (by omega)
theorem HpC.ids (H:HpC w h W G m c S F X):∀ x∈X.q.xs,x.id≠-1:=fun x hx=>by
 obtain⟨_,_,_,_,f,_,hI⟩:=H.mem.gd
 have:=(hI.ids x hx).1
 omega
theorem HpC.ads (H:HpC w h W G m c S F X):∀ o∈X.O,∀ j,o.ad 0 j<9*X.N:=fun o ho j=>by
 have h1:=(H.mem.sto.inv.used o ho _ (z0T j o.n)).1
 have h2:=z2c j o.n
 unfold Ob.ad
 omega
theorem HpC.one_ob (H:HpC w h W G m c S F X) {o o':Ob}(ho:o∈X.O) (ho':o'∈X.O) (e:o.ref=o'.ref):o=o':=by
 obtain⟨a,la,rfl⟩:=List.getElem_of_mem ho
 obtain⟨b,lb,rfl⟩:=List.getElem_of_mem ho'
 by_cases q:a=b
 ·subst q;rfl
 ·exact absurd e (H.mem.sto.inv.ref_ne (List.getElem?_eq_getElem la) (List.getElem?_eq_getElem lb) q)
theorem HpC.put_ob (H:HpC w h W G m c S F X) {i a:Nat}{cl:Cel}{o:Ob}(hi:S[i]?=some (some cl)) (hc:cl.ob=true) (ha:X.O[a]?=some o) (e1:o.ref=cl.at_) (e2:o.n=cl.n) {j:Nat}(hj:j<cl.n) (v:Int) {V:Int→Int→Int}(hV:∀ t,t≠-1→∀ i,V t i=X.V t i):
  Lnk S (setF F i (fun l=>if l=j then v else F i l)) X.O (upd X.ws (o.ad 0 j) v) X.q.xs V:=by
 have ho:=List.mem_of_getElem? ha
 refine H.lnk.put hi (fun k d z hk hd hz ez l hl=>?_) (fun k d x hk hd hx ex l hl=>?_)
 ·obtain⟨o1,ho1,f1,f2,_⟩:=H.lnk.ob k d hk hd
  obtain rfl:=H.one_ob hz ho1 (by rw[ez,f1])
  by_cases q:k=i∧l=j
  ·obtain⟨rfl,rfl⟩:=q
   rw[hi] at hk
   obtain rfl:cl=d:=by simpa using hk
   obtain rfl:=H.one_ob hz ho (by rw[ez,e1])
   rw[if_pos ⟨rfl,rfl⟩,z1a]
  ·rw[if_neg q]
   refine z09 _ _ ?_
   obtain⟨b,lb,eb⟩:=List.getElem_of_mem hz
   refine H.mem.sto.inv.ad_ne (a:=b) (b:=a) (by rw[List.getElem?_eq_getElem lb,eb]) ha (by omega) (by omega) (fun r=>?_)
   obtain⟨rfl,rfl⟩:=r
   rw[List.getElem?_eq_getElem lb,eb] at ha
   obtain rfl:z=o:=by simpa using ha
   exact q ⟨H.lnk.inj k i d cl hk hi (by rw[hd,hc]) (by rw[← ez,e1]),rfl⟩
 ·rw[if_neg,hV _ (H.ids x hx)]
  rintro⟨rfl,_⟩
  rw[hi] at hk
  obtain rfl:cl=d:=by simpa using hk
  rw[hc] at hd;simp at hd
theorem HpC.put_ar (H:HpC w h W G m c S F X) {i:Nat}{cl:Cel}{x:Ary}(hi:S[i]?=some (some cl)) (hc:cl.ob=false) (e1:x.id=cl.at_) {j:Nat}(v:Int) {ws:Nat→Int}(hw:∀ a,a<9*X.N→ws a=X.ws a):
  Lnk S (setF F i (fun l=>if l=j then v else F i l)) X.O ws X.q.xs (updV X.V x.id j v):=by
 refine H.lnk.put hi (fun k d z hk hd hz ez l hl=>?_) (fun k d y hk hd hy ey l hl=>?_)
 ·rw[if_neg,hw _ (H.ads z hz l)]
  rintro⟨rfl,_⟩
  rw[hi] at hk
  obtain rfl:cl=d:=by simpa using hk
  rw[hc] at hd;simp at hd
 ·unfold updV
  by_cases q:k=i∧l=j
  ·obtain⟨rfl,rfl⟩:=q
   rw[hi] at hk
   obtain rfl:cl=d:=by simpa using hk
   rw[if_pos (show y.id=x.id∧(l:Int)=(l:Int) from ⟨by rw[ey,e1],rfl⟩),if_pos ⟨rfl,rfl⟩]
  ·rw[if_neg (c:=y.id=x.id∧(l:Int)=(j:Int)),if_neg q]
   rintro⟨r1,r2⟩
   exact q ⟨H.lnk.inj k i d cl hk hi (by rw[hd,hc]) (by rw[← ey,r1,e1]),by omega⟩
def z3h (w:World) (h W G m:Nat) (c:Int→Int) (S:List (Option Cel)) (F:Nat→Nat→Int) (X:Hx) (g:Int) (v:Int) (e:Ending) (w':World):Prop:=e=.returned (.tuple #[.int .i64 v,.int .i64 0])∧∃ c',c' g≤c g+12∧c g≤c' g∧HpT w h W G (m+1) c' S F X w'
def z3H (w:World) (h W G m:Nat) (c:Int→Int) (S:List (Option Cel)) (F:Nat→Nat→Int) (X:Hx) (g:Int) (e:Ending) (w':World):Prop:=e=.returned (.int .i64 0)∧∃ c',c' g≤c g+12∧c g≤c' g∧HpT w h W G (m+1) c' S F X w'
theorem zdz {cs cs':Nat→Int}{g d:Nat}(h:Tks cs cs' g d) (h0:0≤cs g) (h1:cs g+12≤1000000000) (hd:d≤12):(intf cs') (g:Int)≤cs g+12∧cs g≤(intf cs') (g:Int):=by
 have:=h.2 h0 (by omega)
 show cs' (Int.toNat g)≤_∧_≤cs' (Int.toNat g)
 rw[Int.toNat_natCast]
 omega
theorem zbp (H:HpC w h W G m c S F X) (hm:m≤2000000) {i:Nat}{cl:Cel}(hi:S[i]?=some (some cl)) (hc:cl.ob=true) (g j:Nat) (hg:g<G) (hj:j<cl.n):
  Calls Tryz.prog 208 #[.pointer (some ⟨X.so,0,none⟩),.int .i64 g,.int .i64 cl.at_,.int .i64 j] w (z3h w h W G m c S F X g (F i j)):=by
 obtain⟨o,ho,e1,e2,e3⟩:=H.lnk.ob i cl hi hc
 have hL:=zcX H.mem.sto ho g j hg (by omega)
 rw[e1] at hL
 refine hL.mono ?_
 rintro e w' ⟨rfl,cs',P',htk,hS,hB,hW⟩
 have h8:=z7U (i:=j) H.mem.sto.inv ho
 have hcg:0≤c g∧c g≤400*(m:Int):=H.cnt g
 obtain⟨u1,u2⟩:=zdz htk hcg.1 (by show c g+12≤_;omega) (by omega)
 refine⟨by rw[e3 j hj],intf cs',u1,u2,H.store_same hm hS hB hW (fun _ _=>rfl) (htk.grew.mono (by omega)) fun V hV=>?_⟩
 exact H.lnk.same (fun _ _ _=>rfl) rfl (fun x hx j=>hV _ (H.ids x hx) j)
theorem zck (H:HpC w h W G m c S F X) (hm:m≤2000000) {i:Nat}{cl:Cel}(hi:S[i]?=some (some cl)) (hc:cl.ob=false) (g j:Nat) (hg:g<G) (hj:j<cl.n):
  Calls Tryz.prog 272 #[.agg #[.pointer (some ⟨X.s,0,none⟩)],.int .i64 g,.int .i64 cl.at_,.int .i64 j] w (z3h w h W G m c S F X g (F i j)):=by
 obtain⟨x,hx,e1,e2,e3⟩:=H.lnk.ar i cl hi hc
 have hL:=zc0 H.mem.gd hx g j (by omega) (by omega)
 rw[e1] at hL
 refine hL.mono ?_
 rintro e w' ⟨rfl,c',htk,hT⟩
 have hcg:0≤c g∧c g≤400*(m:Int):=H.cnt g
 have hu:=(htk.up hcg.1 (by omega)).mono (l:=12) (by omega)
 refine⟨by rw[← e1,e3 j hj],c',hu.2.2,hu.2.1,H.space_same hT (fun _=>rfl) hu fun ws hw=>?_⟩
 exact H.lnk.same (fun o ho j=>hw _ (H.ads o ho j)) rfl (fun _ _ _=>rfl)
theorem ze9 (H:HpC w h W G m c S F X) (hm:m≤2000000) {i:Nat}{cl:Cel}(hi:S[i]?=some (some cl)) (hc:cl.ob=true) (g j:Nat) (v:Int) (hg:g<G) (hj:j<cl.n):
  Calls Tryz.prog 210 #[.pointer (some ⟨X.so,0,none⟩),.int .i64 g,.int .i64 cl.at_,.int .i64 j,.int .i64 v] w (z3H w h W G m c S (setF F i (fun l=>if l=j then v else F i l)) X g):=by
 obtain⟨o,ho,e1,e2,e3⟩:=H.lnk.ob i cl hi hc
 obtain⟨a,la,ea⟩:=List.getElem_of_mem ho
 have ha:X.O[a]?=some o:=by rw[List.getElem?_eq_getElem la,ea]
 have hL:=zec H.mem.sto ha g j v hg (by omega)
 rw[e1] at hL
 refine hL.mono ?_
 rintro e w' ⟨rfl,cs',P',htk,hS,hB,hW⟩
 have h8:=z7U (i:=j) H.mem.sto.inv ho
 have had:=H.ads o ho j
 have hcg:0≤c g∧c g≤400*(m:Int):=H.cnt g
 obtain⟨u1,u2⟩:=zdz htk hcg.1 (by show c g+12≤_;omega) (by omega)
 exact⟨rfl,intf cs',u1,u2,H.store_same hm hS hB hW (fun b hb=>z09 _ _ (by omega)) (htk.grew.mono (by omega)) fun V hV=>H.put_ob hi hc ha e1 e2 hj v hV⟩
theorem zdD (H:HpC w h W G m c S F X) (hm:m≤2000000) {i:Nat}{cl:Cel}(hi:S[i]?=some (some cl)) (hc:cl.ob=false) (g j:Nat) (v:Int) (hg:g<G) (hj:j<cl.n):
  Calls Tryz.prog 274 #[.agg #[.pointer (some ⟨X.s,0,none⟩)],.int .i64 g,.int .i64 cl.at_,.int .i64 j,.int .i64 v] w (z3H w h W G m c S (setF F i (fun l=>if l=j then v else F i l)) X g):=by
 obtain⟨x,hx,e1,e2,e3⟩:=H.lnk.ar i cl hi hc
 have hL:=ze1 H.mem.gd hx g j v (by omega) (by omega)
 rw[e1] at hL
 refine hL.mono ?_
 rintro e w' ⟨rfl,c',htk,hT⟩
 have hcg:0≤c g∧c g≤400*(m:Int):=H.cnt g
 have hu:=(htk.up hcg.1 (by omega)).mono (l:=12) (by omega)
 have hx1:=H.ids x hx
 rw[← e1] at hT
 exact⟨rfl,c',hu.2.2,hu.2.1,H.space_same hT (fun a=>if_neg (by omega)) hu fun ws hw=>H.put_ar hi hc e1 v hw⟩
theorem HpC.acc (H:HpC w h W G m c S F X) (hm:m≤2000000) {i:Nat}{cl:Cel}(hi:S[i]?=some (some cl)) (g:Nat) (hg:g<G):∀ w1,Below w.heap.size w w1→Calls Tryz.prog 118 #[.pointer (some ⟨h,0,none⟩),.int .i64 g,.int .i64 ((i:Int)+1)] w1 fun e w'=>e=.returned (.tuple #[.agg #[.int .i64 cl.kind,.int .i64 cl.cls,.int .i64 cl.n,.iface (kty cl) (kvl X.so X.s cl),.int .i64 cl.at_],.int .i64 0])∧Below w1.heap.size w1 w':=fun w1 hb =>
 z8Z (H.mem.below hb) (by have:=H.few;omega) hi g _ rfl (by omega)
theorem HpC.acc_no (H:HpC w h W G m c S F X) (hm:m≤2000000) (g t:Int) (hg:Gone G S g t):∀ w1,Below w.heap.size w w1→Calls Tryz.prog 118 #[.pointer (some ⟨h,0,none⟩),.int .i64 g,.int .i64 t] w1 fun e w'=>e=.returned (.tuple #[.agg #[.int .i64 0,.int .i64 0,.int .i64 0,.nilIface,.int .i64 0],.int .i64 904])∧Below w1.heap.size w1 w':=fun w1 hb =>
 z8g (H.mem.below hb) (by have:=H.few;omega) g t hg
end
end Go.Proofs.YthkelaeemefnaaaGreat
