import Derived.Test.YthkelaeemefnaaaGreatMH3qz
set_option maxRecDepth 20000
set_option maxHeartbeats 1000000
namespace Go.Proofs.YthkelaeemefnaaaGreat
open Go.RowKit
section
variable {w w':World}{h W G m:Nat}{c:Int→Int}{S:List (Option Cel)}{F:Nat→Nat→Int}{X:Hx}
theorem zch (H:HpC w h W G m c S F X) (hm:m≤2000000) {i:Nat}{cl:Cel}(hi:S[i]?=some (some cl)) (hc:cl.ob=true) (g j:Nat) (hg:g<G) (hj:j<cl.n):
  Calls Tryz.prog 85 #[.pointer (some ⟨h,0,none⟩),.int .i64 g,.int .i64 ((i:Int)+1),.int .i64 j] w (z3h w h W G m c S F X g (F i j)):=by
 have hW:=z2q (i:=(j:Int)) g ((i:Int)+1) (by omega) (H.acc hm hi g hg)
 have e1:kty cl=150:=if_pos hc
 have e2:kvl X.so X.s cl=.pointer (some ⟨X.so,0,none⟩):=if_pos hc
 rw[e1,e2] at hW
 have HS:Hid (∀ w2,Below w.heap.size w w2→Calls Tryz.prog 208 #[.pointer (some ⟨X.so,0,none⟩),.int .i64 g,.int .i64 cl.at_,.int .i64 j] w2 (z3h w2 h W G m c S F X g (F i j))):=fun w2 hb=>zbp (H.below hb) hm hi hc g j hg hj
 have m1:=z2o
 have m2:=z2C
 have m3:=z34
 have m4:=z37
 clear H hi hc hg e1 e2 hj
 go_enter Tryz.func85,Tryz.ntmps85
 go_wp2_with (first
  | (go_at_call 96;refine hW.mono ?_;rintro e w1 ⟨rfl,hb⟩;clear hW)
  | (go_at_call 208;refine (HS.out _ (z07 hb _)).mono ?_;rintro e w3 ⟨rfl,c',u1,u2,hT⟩;have HT:Hid (HpT w h W G (m+1) c' S F X w3):=HpT.after (z07 hb _) hT;clear hT))
 go_ret2
 exact⟨rfl,c',u1,u2,HT.out⟩
theorem zbR (H:HpC w h W G m c S F X) (hm:m≤2000000) {i:Nat}{cl:Cel}(hi:S[i]?=some (some cl)) (hc:cl.ob=false) (g j:Nat) (hg:g<G) (hj:j<cl.n):
  Calls Tryz.prog 85 #[.pointer (some ⟨h,0,none⟩),.int .i64 g,.int .i64 ((i:Int)+1),.int .i64 j] w (z3h w h W G m c S F X g (F i j)):=by
 have hW:=z2q (i:=(j:Int)) g ((i:Int)+1) (by omega) (H.acc hm hi g hg)
 have e1:kty cl=153:=if_neg (by rw[hc];simp)
 have e2:kvl X.so X.s cl=.agg #[.pointer (some ⟨X.s,0,none⟩)]:=if_neg (by rw[hc];simp)
 rw[e1,e2] at hW
 have HS:Hid (∀ w2,Below w.heap.size w w2→Calls Tryz.prog 272 #[.agg #[.pointer (some ⟨X.s,0,none⟩)],.int .i64 g,.int .i64 cl.at_,.int .i64 j] w2 (z3h w2 h W G m c S F X g (F i j))):=fun w2 hb=>zck (H.below hb) hm hi hc g j hg hj
 have m1:=z2o
 have m2:=z2C
 have m3:=z34
 have m4:=z37
 clear H hi hc hg e1 e2 hj
 go_enter Tryz.func85,Tryz.ntmps85
 go_wp2_with (first
  | (go_at_call 96;refine hW.mono ?_;rintro e w1 ⟨rfl,hb⟩;clear hW)
  | (go_at_call 272;refine (HS.out _ (z07 hb _)).mono ?_;rintro e w3 ⟨rfl,c',u1,u2,hT⟩;have HT:Hid (HpT w h W G (m+1) c' S F X w3):=HpT.after (z07 hb _) hT;clear hT))
 go_ret2
 exact⟨rfl,c',u1,u2,HT.out⟩
theorem zdK (H:HpC w h W G m c S F X) (hm:m≤2000000) {i:Nat}{cl:Cel}(hi:S[i]?=some (some cl)) (hc:cl.ob=true) (g j:Nat) (v:Int) (hg:g<G) (hj:j<cl.n):
  Calls Tryz.prog 69 #[.pointer (some ⟨h,0,none⟩),.int .i64 g,.int .i64 ((i:Int)+1),.int .i64 j,.int .i64 v] w (z3H w h W G m c S (setF F i (fun l=>if l=j then v else F i l)) X g):=by
 have hW:=z2q (i:=(j:Int)) g ((i:Int)+1) (by omega) (H.acc hm hi g hg)
 have e1:kty cl=150:=if_pos hc
 have e2:kvl X.so X.s cl=.pointer (some ⟨X.so,0,none⟩):=if_pos hc
 rw[e1,e2] at hW
 have HS:Hid (∀ w2,Below w.heap.size w w2→Calls Tryz.prog 210 #[.pointer (some ⟨X.so,0,none⟩),.int .i64 g,.int .i64 cl.at_,.int .i64 j,.int .i64 v] w2 (z3H w2 h W G m c S (setF F i (fun l=>if l=j then v else F i l)) X g)):=fun w2 hb=>ze9 (H.below hb) hm hi hc g j v hg hj
 have m1:=z2o
 have m2:=z2C
 have m3:=z34
 have m4:=z37
 clear H hi hc hg e1 e2 hj
 go_enter Tryz.func69,Tryz.ntmps69
 go_wp2_with (first
  | (go_at_call 96;refine hW.mono ?_;rintro e w1 ⟨rfl,hb⟩;clear hW)
  | (go_at_call 210;refine (HS.out _ (z07 hb _)).mono ?_;rintro e w3 ⟨rfl,c',u1,u2,hT⟩;have HT:Hid (HpT w h W G (m+1) c' S (setF F i (fun l=>if l=j then v else F i l)) X w3):=HpT.after (z07 hb _) hT;clear hT))
 go_ret
 exact⟨rfl,c',u1,u2,HT.out⟩
theorem zem (H:HpC w h W G m c S F X) (hm:m≤2000000) {i:Nat}{cl:Cel}(hi:S[i]?=some (some cl)) (hc:cl.ob=false) (g j:Nat) (v:Int) (hg:g<G) (hj:j<cl.n):
  Calls Tryz.prog 69 #[.pointer (some ⟨h,0,none⟩),.int .i64 g,.int .i64 ((i:Int)+1),.int .i64 j,.int .i64 v] w (z3H w h W G m c S (setF F i (fun l=>if l=j then v else F i l)) X g):=by
 have hW:=z2q (i:=(j:Int)) g ((i:Int)+1) (by omega) (H.acc hm hi g hg)
 have e1:kty cl=153:=if_neg (by rw[hc];simp)
 have e2:kvl X.so X.s cl=.agg #[.pointer (some ⟨X.s,0,none⟩)]:=if_neg (by rw[hc];simp)
 rw[e1,e2] at hW
 have HS:Hid (∀ w2,Below w.heap.size w w2→Calls Tryz.prog 274 #[.agg #[.pointer (some ⟨X.s,0,none⟩)],.int .i64 g,.int .i64 cl.at_,.int .i64 j,.int .i64 v] w2 (z3H w2 h W G m c S (setF F i (fun l=>if l=j then v else F i l)) X g)):=fun w2 hb=>zdD (H.below hb) hm hi hc g j v hg hj
 have m1:=z2o
 have m2:=z2C
 have m3:=z34
 have m4:=z37
 clear H hi hc hg e1 e2 hj
 go_enter Tryz.func69,Tryz.ntmps69
 go_wp2_with (first
  | (go_at_call 96;refine hW.mono ?_;rintro e w1 ⟨rfl,hb⟩;clear hW)
  | (go_at_call 274;refine (HS.out _ (z07 hb _)).mono ?_;rintro e w3 ⟨rfl,c',u1,u2,hT⟩;have HT:Hid (HpT w h W G (m+1) c' S (setF F i (fun l=>if l=j then v else F i l)) X w3):=HpT.after (z07 hb _) hT;clear hT))
 go_ret
 exact⟨rfl,c',u1,u2,HT.out⟩
theorem zbq (H:HpC w h W G m c S F X) (hm:m≤2000000) (g t i:Int) (hg:Gone G S g t):
  Calls Tryz.prog 85 #[.pointer (some ⟨h,0,none⟩),.int .i64 g,.int .i64 t,.int .i64 i] w fun e w'=>e=.returned (.tuple #[.int .i64 0,.int .i64 904])∧Below w.heap.size w w':=by
 have hW:=z80 g t i (H.acc_no hm g t hg)
 clear H hg
 go_enter Tryz.func85,Tryz.ntmps85
 go_wp2_with (go_at_call 96;refine hW.mono ?_;rintro e w1 ⟨rfl,hb⟩;clear hW)
 go_ret2
 exact⟨rfl,z07 hb _⟩
theorem zei (H:HpC w h W G m c S F X) (hm:m≤2000000) (g t i:Int) (v:Int) (hg:Gone G S g t):
  Calls Tryz.prog 69 #[.pointer (some ⟨h,0,none⟩),.int .i64 g,.int .i64 t,.int .i64 i,.int .i64 v] w fun e w'=>e=.returned (.int .i64 904)∧Below w.heap.size w w':=by
 have hW:=z80 g t i (H.acc_no hm g t hg)
 clear H hg
 go_enter Tryz.func69,Tryz.ntmps69
 go_wp2_with (go_at_call 96;refine hW.mono ?_;rintro e w1 ⟨rfl,hb⟩;clear hW)
 go_ret
 exact⟨rfl,z07 hb _⟩
theorem zac (H:HpC w h W G m c S F X) (hm:m≤2000000) {k:Nat}{cl:Cel}(hk:S[k]?=some (some cl)) (g:Nat) (hg:g<G) (i:Int) (hi:¬ (0≤i∧i<cl.n)):
  Calls Tryz.prog 85 #[.pointer (some ⟨h,0,none⟩),.int .i64 g,.int .i64 ((k:Int)+1),.int .i64 i] w fun e w'=>e=.returned (.tuple #[.int .i64 0,.int .i64 903])∧Below w.heap.size w w':=by
 have hW:=z55 g ((k:Int)+1) i hi (H.acc hm hk g hg)
 clear H hk hg hi
 go_enter Tryz.func85,Tryz.ntmps85
 go_wp2_with (go_at_call 96;refine hW.mono ?_;rintro e w1 ⟨rfl,hb⟩;clear hW)
 go_ret2
 exact⟨rfl,z07 hb _⟩
theorem zbJ (H:HpC w h W G m c S F X) (hm:m≤2000000) {k:Nat}{cl:Cel}(hk:S[k]?=some (some cl)) (g:Nat) (hg:g<G) (i:Int) (v:Int) (hi:¬ (0≤i∧i<cl.n)):
  Calls Tryz.prog 69 #[.pointer (some ⟨h,0,none⟩),.int .i64 g,.int .i64 ((k:Int)+1),.int .i64 i,.int .i64 v] w fun e w'=>e=.returned (.int .i64 903)∧Below w.heap.size w w':=by
 have hW:=z55 g ((k:Int)+1) i hi (H.acc hm hk g hg)
 clear H hk hg hi
 go_enter Tryz.func69,Tryz.ntmps69
 go_wp2_with (go_at_call 96;refine hW.mono ?_;rintro e w1 ⟨rfl,hb⟩;clear hW)
 go_ret
 exact⟨rfl,z07 hb _⟩
theorem zcT (H:HpC w h W G m c S F X) (hm:m≤2000000) {i:Nat}{cl:Cel}(hi:S[i]?=some (some cl)) (g j:Nat) (hg:g<G) (hj:j<cl.n):
  Calls Tryz.prog 85 #[.pointer (some ⟨h,0,none⟩),.int .i64 g,.int .i64 ((i:Int)+1),.int .i64 j] w (z3h w h W G m c S F X g (F i j)):=by
 cases hc:cl.ob with
 | true=>exact zch H hm hi hc g j hg hj
 | false=>exact zbR H hm hi hc g j hg hj
theorem zek (H:HpC w h W G m c S F X) (hm:m≤2000000) {i:Nat}{cl:Cel}(hi:S[i]?=some (some cl)) (g j:Nat) (v:Int) (hg:g<G) (hj:j<cl.n):
  Calls Tryz.prog 69 #[.pointer (some ⟨h,0,none⟩),.int .i64 g,.int .i64 ((i:Int)+1),.int .i64 j,.int .i64 v] w (z3H w h W G m c S (setF F i (fun l=>if l=j then v else F i l)) X g):=by
 cases hc:cl.ob with
 | true=>exact zdK H hm hi hc g j v hg hj
 | false=>exact zem H hm hi hc g j v hg hj
end
end Go.Proofs.YthkelaeemefnaaaGreat
namespace Go.Proofs.YthkelaeemefnaaaGreat
open Go.RowKit
theorem z5I (p : Addr) (w : World) : (Go.method 445 150 (.pointer (some p)) "Free").run Tryz.prog w = .ok (207, .pointer (some p)) w := by kernel_rfl
theorem z6d (v : Value) (w : World) : (Go.method 445 153 (.agg #[v]) "Free").run Tryz.prog w = .ok (271, .agg #[v]) w := by kernel_rfl
structure Fmid (w:World) (h W G m:Nat) (S:List (Option Cel)) (F:Nat→Nat→Int) (X:Hx) (i:Nat) (w2:World):Prop where
 mid:∃ (c':Int→Int) (Y:Hx),HpM w2 h W G c' ((z06 W:Int)-sumS S) (z0y Y.so Y.s S) Y∧Y.so=X.so∧Y.s=X.s∧Y.ln=X.ln∧Bt (X.own h) w w2∧Wider (X.own h) (Y.own h) w ∧
  ∀ (w3:World) (vc:Value) (ln:Nat),Tab (S.set i none) ln→HpM w3 h W G c' ((z06 W:Int)-sumS (S.set i none)) (z0y Y.so Y.s (S.set i none)) { Y with vc:=vc,ln:=ln }→HpC w3 h W G (m+500) c' (S.set i none) F { Y with vc:=vc,ln:=ln }
section
variable {w:World}{h W G m:Nat}{c:Int→Int}{S:List (Option Cel)}{F:Nat→Nat→Int}{X:Hx}
theorem z5a {base N:Nat}(ws:Nat→Int) (c:Nat→Nat) {a:Nat}(ha:base+9*N≤a):∀ m,(∀ k,k<m→c k<N)→z3o base N ws c m a=ws a
 | 0,_=>rfl
 | m+1,h=>by
  have:=h m (by omega)
  show upd _ _ _ a=_
  rw[z09 _ _ (by omega),z5a ws c ha m fun k hk=>h k (by omega)]
theorem zbs (H:HpC w h W G m c S F X) (hm:m≤2000000) {i:Nat}{cl:Cel}(hi:S[i]?=some (some cl)) (hc:cl.ob=true) (g:Nat) (hg:g<G):
  Calls Tryz.prog 207 #[.pointer (some ⟨X.so,0,none⟩),.int .i64 g,.int .i64 cl.at_] w fun e w'=>e=.returned (.int .i64 0)∧Fmid w h W G m S F X i w':=by
 obtain⟨o,ho,e1,e2,e3⟩:=H.lnk.ob i cl hi hc
 obtain⟨a,la,ea⟩:=List.getElem_of_mem ho
 have ha:X.O[a]?=some o:=by rw[List.getElem?_eq_getElem la,ea]
 have hf:=H.few
 have hL:=zeQ H.mem.sto ha g hg (by omega)
 rw[e1] at hL
 refine hL.mono ?_
 rintro e w' ⟨rfl,xs',cs',D',P',hgr,hl,hS,hB,hW⟩
 refine⟨rfl,?_⟩
 have hu:=fun k hk=>(H.mem.sto.inv.used o ho k hk).1
 obtain⟨P1,V,hM,hV,hB2,hW2⟩:=H.mem.store hS hB hW fun b hb=>z5a X.ws o.c (by omega) _ hu
 have h9:=z13 (H.mem.sto.inv.size o ho)
 refine⟨intf cs',{ X with P1:=P1,P2:=P',T:=X.T+frg o.n,xs:=xs',ws:=z3o 0 X.N X.ws o.c (frg o.n),D:=D',O:=X.O.eraseIdx a,V:=V },hM,rfl,rfl,rfl,hB2,hW2,fun w3 vc ln hT hM3=>?_⟩
 have hL0:Lnk S F X.O X.ws X.q.xs V:=H.lnk.same (fun _ _ _=>rfl) rfl (fun x hxx j=>hV _ (H.ids x hxx) j)
 refine⟨hM3,hT,hL0.free_ob hi hc ha e1 e2 (fun z hz j=>H.mem.sto.inv.free_old _ hz),H.enough,H.big,by have:=(z0E S i cl hi).1;have:=H.fit;omega,H.half,H.calm,⟨?_,?_,?_,by rw[List.length_set];omega⟩,?_⟩
 ·show 25*(X.T+frg o.n)≤((m+500:Nat):Int);omega
 ·show 500*X.nn≤m+500;omega
 ·show 500*X.q.given≤((m+500:Nat):Int);omega
 ·rw[z1l]
  exact (hgr _ (by omega) (by omega) H.cnt).mono (by omega)
theorem zbI (H:HpC w h W G m c S F X) {i:Nat}{cl:Cel}(hi:S[i]?=some (some cl)) (hc:cl.ob=false) (g:Int):
  Calls Tryz.prog 271 #[.agg #[.pointer (some ⟨X.s,0,none⟩)],.int .i64 g,.int .i64 cl.at_] w fun e w'=>e=.returned (.int .i64 0)∧Fmid w h W G m S F X i w':=by
 obtain⟨x,hx,e1,e2,e3⟩:=H.lnk.ar i cl hi hc
 have hf:=H.few
 have hL:=zd2 H.mem.gd hx g
 rw[e1] at hL
 refine hL.mono ?_
 rintro e w' ⟨rfl,hT⟩
 refine⟨rfl,?_⟩
 obtain⟨_,_,_,_,f,_,hI⟩:=id H.mem.gd
 obtain⟨_,hk⟩:=hI.at_id hx
 rw[e1] at hk
 obtain⟨P1,ws,hM,hw,hB2,hW2⟩:=H.mem.space hT rfl rfl fun a=>rfl
 refine⟨c,{ X with P1:=P1,ws:=ws,q:=z0M X.q (pos X.q.xs cl.at_) x.n },hM,rfl,rfl,rfl,hB2,hW2,fun w3 vc ln hTb hM3=>?_⟩
 have hL0:Lnk S F X.O ws X.q.xs X.V:=H.lnk.same (fun o ho j=>hw _ (H.ads o ho j)) rfl (fun _ _ _=>rfl)
 refine⟨hM3,hTb,hL0.free_ar hI.sorted hi hc hk e1 e2,H.enough,H.big,by have:=(z0E S i cl hi).1;have:=H.fit;omega,H.half,H.calm,⟨?_,?_,?_,by rw[List.length_set];omega⟩,H.cnt.mono (by omega)⟩
 ·show 25*X.T≤((m+500:Nat):Int);omega
 ·show 500*X.nn≤m+500;omega
 ·show 500*X.q.given≤((m+500:Nat):Int);omega
theorem TabT.after {w1 w':World}{room:Int}(hb:Below w.heap.size w w1) (ht:TabT w1 h W G c room S X w'):TabT w h W G c room S X w':=by
 obtain⟨vc,ln,h4,h5,h7,h8⟩:=ht
 exact⟨vc,ln,h4,h5,(Bt.of_below hb).trans h7,fun k hk=>(h8 k hk).imp id (fun r=>Nat.le_trans hb.size r)⟩
def z9Z (w:World) (h W G m:Nat) (S:List (Option Cel)) (F:Nat→Nat→Int) (X:Hx) (i:Nat) (e:Ending) (w':World):Prop:=e=.returned (.int .i64 0)∧∃ c',HpT w h W G (m+500) c' (S.set i none) F X w'
theorem zcV (H:HpC w h W G m c S F X) (hm:m≤2000000) {i:Nat}{cl:Cel}(hi:S[i]?=some (some cl)) (hc:cl.ob=true) (g:Nat) (hg:g<G):
  Calls Tryz.prog 147 #[.pointer (some ⟨h,0,none⟩),.int .i64 g,.int .i64 ((i:Int)+1)] w (z9Z w h W G m S F X i):=by
 have hA:=H.acc hm hi g hg w (Below.refl _ _)
 have e1:kty cl=150:=if_pos hc
 have e2:kvl X.so X.s cl=.pointer (some ⟨X.so,0,none⟩):=if_pos hc
 rw[e1,e2] at hA
 have HS:Hid (∀ w2,Below w.heap.size w w2→Calls Tryz.prog 207 #[.pointer (some ⟨X.so,0,none⟩),.int .i64 g,.int .i64 cl.at_] w2 fun e w'=>e=.returned (.int .i64 0)∧Fmid w2 h W G m S F X i w'):=fun w2 hb=>zbs (H.below hb) hm hi hc g hg
 have m1:=z5I
 have m2:=z6d
 have hh:=H.mem.h_lt
 have HR:Hid (z06 W≤6000∧sumS S≤z06 W∧sumS (S.set i none)+(cl.n+16)=sumS S):=⟨by have:=H.big;unfold z06;omega,H.fit,(z0E S i cl hi).1⟩
 have hcn:cl.n≤6000:=by have:=HR.out;omega
 have hC:=z0U (cl.n:Int) (by omega)
 have HL:Hid (∀ k,X.own h k→k<w.heap.size):=fun k hk=>H.mem.own_lt hk
 have HT:Hid (Tab S X.ln∧S.length<100000∧S[i]?=some (some cl)):=⟨H.tab,by have:=H.few;omega,hi⟩
 obtain⟨ro,hro⟩:∃ ro:Int,ro=(z06 W:Int)-sumS S:=⟨_,rfl⟩
 have Hro:Hid (ro=(z06 W:Int)-sumS S):=hro
 have r2:0≤ro∧ro≤6000:=by have:=HR.out;omega
 have ew:IntKind.i64.wrap (ro+((cl.n:Int)+16))=ro+((cl.n:Int)+16):=by rw[IntKind.wrap_i64];omega
 obtain⟨nn,hnn⟩:∃ nn:Nat,nn=cl.n:=⟨_,rfl⟩
 rw[← hnn] at hA hC ew hcn
 have Hn:Hid (nn=cl.n):=hnn
 clear H hi hg hro hnn e1 e2 hc
 go_enter Tryz.func147,Tryz.ntmps147
 go_wp2_with (first
  | (go_at_call 118;refine hA.mono ?_;rintro e w1 ⟨rfl,hb⟩;have zz:=hb.size;have kb2:=heap_alloc_new w1 (.cells #[.int .i64 cl.kind,.int .i64 cl.cls,.int .i64 nn,.iface 150 (.pointer (some ⟨X.so,0,none⟩)),.int .i64 cl.at_] 137);have hb2:=z07 hb (.cells #[.int .i64 cl.kind,.int .i64 cl.cls,.int .i64 nn,.iface 150 (.pointer (some ⟨X.so,0,none⟩)),.int .i64 cl.at_] 137);have hS2:=HS.out _ hb2;clear hA HS)
  | (go_at_call 207;refine hS2.mono ?_;rintro e w3 ⟨rfl,hMid⟩;obtain⟨c',Y,hY,y1,y2,y3,hB3,hW3,hfin⟩:=hMid.mid;have kb3:=(hB3.block w1.heap.size (by rw[Go.Deep.nblk_alloc];omega) (fun r=>by have:=HL.out _ r;omega)).trans kb2;have z4:=(z4Z kb3).1;have z5:=z02 kb3;have c5:=hY.five.2.2.2.2;rw[← Hro.out] at c5;have f5:=frz hY.here 5;have h3:=hY.h_lt;have zh:w1.heap.size≠h:=(fun e=>by have:=hY.here;rw[← e,kb3] at this;simp at this);
      have HY:Hid (HpM w3 h W G c' ((z06 W:Int)-sumS S) (z0y Y.so Y.s S) Y∧Y.ln=X.ln∧Bt (X.own h) w w3∧Wider (X.own h) (Y.own h) w):=⟨hY,y3,(Bt.of_below hb2).trans hB3,fun k hk=>(hW3 k hk).imp id (fun r=>Nat.le_trans hb2.size r)⟩;
      have HN:Hid (∀ (w4:World) (vc:Value) (ln:Nat),Tab (S.set i none) ln→HpM w4 h W G c' ((z06 W:Int)-sumS (S.set i none)) (z0y Y.so Y.s (S.set i none)) { Y with vc:=vc,ln:=ln }→HpC w4 h W G (m+500) c' (S.set i none) F { Y with vc:=vc,ln:=ln }):=hfin;clear hS2 hMid hY y1 y2 y3 hB3 hW3 hfin kb2 hb2))
 go_region_with (go_at_call 56;refine (hC _).mono ?_;rintro e w9 ⟨rfl,hw9⟩;replace hw9:=hw9.symm;subst hw9)
 all_goals
  obtain⟨q1,q2⟩:=HY.out.1.poke (ro+((nn:Int)+16))
  have q3:=q1.below (w':=World.drew _) (z00 _ 1 _)
  have q4:Bt (Y.own h) w3 (World.drew _):=q2.trans (Bt.of_below (z00 _ 1 _))
  generalize World.drew _=w4 at *
  have HP:Hid (HpM w4 h W G c' (ro+((nn:Int)+16)) (z0y Y.so Y.s S) Y∧Bt (Y.own h) w3 w4):=⟨q3,q4⟩
  have h4:=q3.h_lt
  have hRm:=zb8 q3 (by rw[HY.out.2.1];exact HT.out.1) HT.out.2.1 HT.out.2.2 ((i:Int)+1) rfl
  clear q1 q2 q3 q4 kb3 z4 z5 c5 f5
  go_wp2_with (go_at_call 158;refine hRm.mono ?_;rintro e w6 ⟨rfl,vc,ln,hM6,hT6,hB6,hW6⟩)
  go_ret
  have hs:=HR.out.2.2
  have hro:=Hro.out
  have hn:=Hn.out
  refine⟨rfl,c',_,HN.out w6 vc ln hT6 ?_,HY.out.2.2.1.wide (HP.out.2.trans hB6) HY.out.2.2.2,HY.out.2.2.2.trans hW6 (Nat.le_trans HY.out.2.2.1.size HP.out.2.size)⟩
  have e:(z06 W:Int)-sumS (S.set i none)=ro+((nn:Int)+16):=by omega
  rw[e];exact hM6
theorem zcW (H:HpC w h W G m c S F X) (hm:m≤2000000) {i:Nat}{cl:Cel}(hi:S[i]?=some (some cl)) (hc:cl.ob=false) (g:Nat) (hg:g<G):
  Calls Tryz.prog 147 #[.pointer (some ⟨h,0,none⟩),.int .i64 g,.int .i64 ((i:Int)+1)] w (z9Z w h W G m S F X i):=by
 have hA:=H.acc hm hi g hg w (Below.refl _ _)
 have e1:kty cl=153:=if_neg (by rw[hc];simp)
 have e2:kvl X.so X.s cl=.agg #[.pointer (some ⟨X.s,0,none⟩)]:=if_neg (by rw[hc];simp)
 rw[e1,e2] at hA
 have HS:Hid (∀ w2,Below w.heap.size w w2→Calls Tryz.prog 271 #[.agg #[.pointer (some ⟨X.s,0,none⟩)],.int .i64 g,.int .i64 cl.at_] w2 fun e w'=>e=.returned (.int .i64 0)∧Fmid w2 h W G m S F X i w'):=fun w2 hb=>zbI (H.below hb) hi hc g
 have m1:=z5I
 have m2:=z6d
 have hh:=H.mem.h_lt
 have HR:Hid (z06 W≤6000∧sumS S≤z06 W∧sumS (S.set i none)+(cl.n+16)=sumS S):=⟨by have:=H.big;unfold z06;omega,H.fit,(z0E S i cl hi).1⟩
 have hcn:cl.n≤6000:=by have:=HR.out;omega
 have hC:=z0U (cl.n:Int) (by omega)
 have HL:Hid (∀ k,X.own h k→k<w.heap.size):=fun k hk=>H.mem.own_lt hk
 have HT:Hid (Tab S X.ln∧S.length<100000∧S[i]?=some (some cl)):=⟨H.tab,by have:=H.few;omega,hi⟩
 obtain⟨ro,hro⟩:∃ ro:Int,ro=(z06 W:Int)-sumS S:=⟨_,rfl⟩
 have Hro:Hid (ro=(z06 W:Int)-sumS S):=hro
 have r2:0≤ro∧ro≤6000:=by have:=HR.out;omega
 have ew:IntKind.i64.wrap (ro+((cl.n:Int)+16))=ro+((cl.n:Int)+16):=by rw[IntKind.wrap_i64];omega
 obtain⟨nn,hnn⟩:∃ nn:Nat,nn=cl.n:=⟨_,rfl⟩
 rw[← hnn] at hA hC ew hcn
 have Hn:Hid (nn=cl.n):=hnn
 clear H hi hg hro hnn e1 e2 hc
 go_enter Tryz.func147,Tryz.ntmps147
 go_wp2_with (first
  | (go_at_call 118;refine hA.mono ?_;rintro e w1 ⟨rfl,hb⟩;have zz:=hb.size;have kb2:=heap_alloc_new w1 (.cells #[.int .i64 cl.kind,.int .i64 cl.cls,.int .i64 nn,.iface 153 (.agg #[.pointer (some ⟨X.s,0,none⟩)]),.int .i64 cl.at_] 137);have hb2:=z07 hb (.cells #[.int .i64 cl.kind,.int .i64 cl.cls,.int .i64 nn,.iface 153 (.agg #[.pointer (some ⟨X.s,0,none⟩)]),.int .i64 cl.at_] 137);have hS2:=HS.out _ hb2;clear hA HS)
  | (go_at_call 271;refine hS2.mono ?_;rintro e w3 ⟨rfl,hMid⟩;obtain⟨c',Y,hY,y1,y2,y3,hB3,hW3,hfin⟩:=hMid.mid;have kb3:=(hB3.block w1.heap.size (by rw[Go.Deep.nblk_alloc];omega) (fun r=>by have:=HL.out _ r;omega)).trans kb2;have z4:=(z4Z kb3).1;have z5:=z02 kb3;have c5:=hY.five.2.2.2.2;rw[← Hro.out] at c5;have f5:=frz hY.here 5;have h3:=hY.h_lt;have zh:w1.heap.size≠h:=(fun e=>by have:=hY.here;rw[← e,kb3] at this;simp at this);
      have HY:Hid (HpM w3 h W G c' ((z06 W:Int)-sumS S) (z0y Y.so Y.s S) Y∧Y.ln=X.ln∧Bt (X.own h) w w3∧Wider (X.own h) (Y.own h) w):=⟨hY,y3,(Bt.of_below hb2).trans hB3,fun k hk=>(hW3 k hk).imp id (fun r=>Nat.le_trans hb2.size r)⟩;
      have HN:Hid (∀ (w4:World) (vc:Value) (ln:Nat),Tab (S.set i none) ln→HpM w4 h W G c' ((z06 W:Int)-sumS (S.set i none)) (z0y Y.so Y.s (S.set i none)) { Y with vc:=vc,ln:=ln }→HpC w4 h W G (m+500) c' (S.set i none) F { Y with vc:=vc,ln:=ln }):=hfin;clear hS2 hMid hY y1 y2 y3 hB3 hW3 hfin kb2 hb2))
 go_region_with (go_at_call 56;refine (hC _).mono ?_;rintro e w9 ⟨rfl,hw9⟩;replace hw9:=hw9.symm;subst hw9)
 all_goals
  obtain⟨q1,q2⟩:=HY.out.1.poke (ro+((nn:Int)+16))
  have q3:=q1.below (w':=World.drew _) (z00 _ 1 _)
  have q4:Bt (Y.own h) w3 (World.drew _):=q2.trans (Bt.of_below (z00 _ 1 _))
  generalize World.drew _=w4 at *
  have HP:Hid (HpM w4 h W G c' (ro+((nn:Int)+16)) (z0y Y.so Y.s S) Y∧Bt (Y.own h) w3 w4):=⟨q3,q4⟩
  have h4:=q3.h_lt
  have hRm:=zb8 q3 (by rw[HY.out.2.1];exact HT.out.1) HT.out.2.1 HT.out.2.2 ((i:Int)+1) rfl
  clear q1 q2 q3 q4 kb3 z4 z5 c5 f5
  go_wp2_with (go_at_call 158;refine hRm.mono ?_;rintro e w6 ⟨rfl,vc,ln,hM6,hT6,hB6,hW6⟩)
  go_ret
  have hs:=HR.out.2.2
  have hro:=Hro.out
  have hn:=Hn.out
  refine⟨rfl,c',_,HN.out w6 vc ln hT6 ?_,HY.out.2.2.1.wide (HP.out.2.trans hB6) HY.out.2.2.2,HY.out.2.2.2.trans hW6 (Nat.le_trans HY.out.2.2.1.size HP.out.2.size)⟩
  have e:(z06 W:Int)-sumS (S.set i none)=ro+((nn:Int)+16):=by omega
  rw[e];exact hM6
theorem zcC (H:HpC w h W G m c S F X) (hm:m≤2000000) {i:Nat}{cl:Cel}(hi:S[i]?=some (some cl)) (g:Nat) (hg:g<G):
  Calls Tryz.prog 147 #[.pointer (some ⟨h,0,none⟩),.int .i64 g,.int .i64 ((i:Int)+1)] w (z9Z w h W G m S F X i):=by
 cases hc:cl.ob with
 | true=>exact zcV H hm hi hc g hg
 | false=>exact zcW H hm hi hc g hg
theorem zc2 (H:HpC w h W G m c S F X) (hm:m≤2000000) (g t:Int) (hg:Gone G S g t):
  Calls Tryz.prog 147 #[.pointer (some ⟨h,0,none⟩),.int .i64 g,.int .i64 t] w fun e w'=>e=.returned (.int .i64 904)∧Below w.heap.size w w':=by
 have hA:=H.acc_no hm g t hg w (Below.refl _ _)
 clear H hg
 go_enter Tryz.func147,Tryz.ntmps147
 go_wp2_with (go_at_call 118;refine hA.mono ?_;rintro e w1 ⟨rfl,hb⟩;clear hA)
 go_ret
 exact⟨rfl,z07 hb _⟩
end
end Go.Proofs.YthkelaeemefnaaaGreat
namespace Go.Proofs.YthkelaeemefnaaaGreat
open Go.RowKit
theorem zdL:(Tryz.prog.info? 98).map (·.size)=some 3:=by kernel_rfl
section
variable {w:World}{h W G m:Nat}{c:Int→Int}{S:List (Option Cel)}{F:Nat→Nat→Int}{X:Hx}
theorem z6e {w:World}{z ty:Nat}{a b c:Value}(h:w.heap[z]?=some (.cells #[a,b,c] ty (0,0))):(w.cell? ⟨z,0,none⟩=some a∧w.cell? ⟨z,1,none⟩=some b∧w.cell? ⟨z,2,none⟩=some c)∧∀ j,w.frozen? ⟨z,j,none⟩=false:=by
 simp[World.cell?,World.frozen?,h]
theorem zct (H:HpC w h W G m c S F X) (hm:m≤2000000) {i:Nat}{cl:Cel}(hi:S[i]?=some (some cl)):
  Calls Tryz.prog 67 #[.pointer (some ⟨h,0,none⟩),.int .i64 ((i:Int)+1)] w fun e w'=>e=.returned (.tuple #[.agg #[.int .i64 cl.kind,.int .i64 cl.cls,.int .i64 cl.n],.int .i64 0])∧Below w.heap.size w w':=by
 have hh:=H.mem.h_lt
 have hb0:=(Below.refl w.heap.size w).alloc (Nat.le_refl _) (.cells #[.int .i64 0,.int .i64 0,.int .i64 0] 98)
 have hz0:=heap_alloc_new w (.cells #[.int .i64 0,.int .i64 0,.int .i64 0] 98)
 have hF:=(H.mem.below hb0).find_some (by have:=H.few;omega) hi ((i:Int)+1) rfl
 have HB:Hid (∀ w1,Below (w.alloc (.cells #[.int .i64 0,.int .i64 0,.int .i64 0] 98)).heap.size (w.alloc (.cells #[.int .i64 0,.int .i64 0,.int .i64 0] 98)) w1→Below w.heap.size w w1∧w1.heap[w.heap.size]?=some (.cells #[.int .i64 0,.int .i64 0,.int .i64 0] 98 (0,0))):=fun w1 hb =>
  ⟨hb0.trans (hb.mono hb0.size),(hb.block _ (by rw[Go.Deep.nblk_alloc];omega)).trans hz0⟩
 generalize kty cl=ty at *
 generalize kvl X.so X.s cl=d at *
 clear H hi hb0 hz0
 go_enter Tryz.func67,Tryz.ntmps67
 go_wp2_with (go_at_call 95;refine hF.mono ?_;rintro e w1 ⟨rfl,hb⟩;obtain⟨hb1,hz1⟩:=HB.out w1 hb;have k2:=z6e hz1;have k3:=z02 hz1;clear hF hb)
 exact bodyPost_ret (z0j rfl _ _ w.heap.size 98 _ (0,0) _ rfl (z01 (z25 hz1) _) Tryz.underlying98 rfl zdL) rfl ⟨rfl,z07 (z0X hb1 (Nat.le_refl _)) _⟩
theorem zbS (H:HpC w h W G m c S F X) (hm:m≤2000000) (t:Int) (hn:∀ (i:Nat) (cl:Cel),t=(i:Int)+1→S[i]?≠some (some cl)):
  Calls Tryz.prog 67 #[.pointer (some ⟨h,0,none⟩),.int .i64 t] w fun e w'=>e=.returned (.tuple #[.agg #[.int .i64 0,.int .i64 0,.int .i64 0],.int .i64 904])∧Below w.heap.size w w':=by
 have hh:=H.mem.h_lt
 have hb0:=(Below.refl w.heap.size w).alloc (Nat.le_refl _) (.cells #[.int .i64 0,.int .i64 0,.int .i64 0] 98)
 have hz0:=heap_alloc_new w (.cells #[.int .i64 0,.int .i64 0,.int .i64 0] 98)
 have hF:=(H.mem.below hb0).find_none (by have:=H.few;omega) t hn
 have HB:Hid (∀ w1,Below (w.alloc (.cells #[.int .i64 0,.int .i64 0,.int .i64 0] 98)).heap.size (w.alloc (.cells #[.int .i64 0,.int .i64 0,.int .i64 0] 98)) w1→Below w.heap.size w w1∧w1.heap[w.heap.size]?=some (.cells #[.int .i64 0,.int .i64 0,.int .i64 0] 98 (0,0))):=fun w1 hb =>
  ⟨hb0.trans (hb.mono hb0.size),(hb.block _ (by rw[Go.Deep.nblk_alloc];omega)).trans hz0⟩
 clear H hn hb0 hz0
 go_enter Tryz.func67,Tryz.ntmps67
 go_wp2_with (go_at_call 95;refine hF.mono ?_;rintro e w1 ⟨rfl,hb⟩;obtain⟨hb1,hz1⟩:=HB.out w1 hb;have k2:=z6e hz1;have k3:=z02 hz1;clear hF hb)
 exact bodyPost_ret (z0j rfl _ _ w.heap.size 98 _ (0,0) _ rfl (z01 (z25 hz1) _) Tryz.underlying98 rfl zdL) rfl ⟨rfl,z07 (z0X hb1 (Nat.le_refl _)) _⟩
def z7i (w:World) (S:List (Option Cel)) (e:Ending) (w':World):Prop:=∃ v,e=.returned v∧Ri w' w.heap.size v (nums 0 S)∧Below w.heap.size w w'
theorem zbY (H:HpC w h W G m c S F X) (hm:m≤2000000):Calls Tryz.prog 83 #[.pointer (some ⟨h,0,none⟩)] w (z7i w S):=by
 have hN:=z8P H.mem.five.2.2.1 H.mem.cells (by have:=H.few;omega)
 have hh:=H.mem.h_lt
 clear H
 go_enter Tryz.func83,Tryz.ntmps83
 go_wp2_with (go_at_call 106;refine hN.mono ?_;rintro e w1 ⟨v,rfl,hR,hb⟩)
 go_ret
 exact⟨v,rfl,hR,hb⟩
theorem zbz (H:HpC w h W G m c S F X):Calls Tryz.prog 54 #[.pointer (some ⟨h,0,none⟩)] w fun e w'=>e=.returned (.int .i64 ((z06 W:Int)-sumS S))∧w'=w:=by
 have cc:=H.mem.five
 generalize (z06 W:Int)-sumS S=ro at *
 clear H
 go_enter Tryz.func54,Tryz.ntmps54
 go_wp2
 go_ret
 exact⟨rfl,rfl⟩
end
end Go.Proofs.YthkelaeemefnaaaGreat
