import Derived.Test.YthkelaeemefnaaaGreatMH2qz
import Derived.Test.YthkelaeemefnaaaGreatMHArrqz
namespace Go.Proofs.YthkelaeemefnaaaGreat
open Go.RowKit
structure HpC (w:World) (h W G m:Nat) (c:Int→Int) (S:List (Option Cel)) (F:Nat→Nat→Int) (X:Hx):Prop where
 mem:HpM w h W G c ((z06 W:Int)-sumS S) (z0y X.so X.s S) X
 tab:Tab S X.ln
 lnk:Lnk S F X.O X.ws X.q.xs X.V
 enough:Enough W X.N
 big:512≤W∧W≤20000
 fit:sumS S≤z06 W
 half:X.q.half=((W:Int)-(11*X.N+8))/2
 calm:X.q.c.on=false
 few:25*X.T≤(m:Int)∧500*X.nn≤m∧500*X.q.given≤(m:Int)∧500*S.length≤m
 cnt:Few (400*(m:Int)) (natf c)
def HpT (w:World) (h W G m:Nat) (c:Int→Int) (S:List (Option Cel)) (F:Nat→Nat→Int) (X:Hx) (w':World):Prop :=
 ∃ X',HpC w' h W G m c S F X'∧Bt (X.own h) w w'∧Wider (X.own h) (X'.own h) w
def kmin (t:Int):Int:=if t=4 then 1 else 0
def kmax (t:Int):Int:=if t=1 then 64 else if t=4 then 1 else 1000
def ktt (t:Int):TypeId:=if t=1∨t=4 then 150 else 153
def kvv (so s:Nat) (t:Int):Value:=if t=1∨t=4 then .pointer (some ⟨so,0,none⟩) else .agg #[.pointer (some ⟨s,0,none⟩)]
theorem zdg (so s:Nat) (c:Cel):ktt c.kind=kty c∧kvv so s c.kind=kvl so s c:=by
 have e:c.ob=true↔(c.kind=1∨c.kind=4):=by simp[Cel.ob]
 unfold ktt kvv kty kvl
 by_cases h:c.kind=1∨c.kind=4
 ·rw[if_pos h,if_pos (e.2 h),if_pos h,if_pos (e.2 h)];exact⟨rfl,rfl⟩
 ·rw[if_neg h,if_neg (fun q=>h (e.1 q)),if_neg h,if_neg (fun q=>h (e.1 q))];exact⟨rfl,rfl⟩
section
variable {w w':World}{h W G:Nat}{c:Int→Int}{room:Int}{R:List (List Value)}{X:Hx}
theorem z47 (so s:Nat):KeyK (z1y so s) [1,2,3,4]:=by
 refine⟨rfl,fun i r hr=>?_⟩
 unfold z1y at hr
 match i,hr with
 | 0,hr=>simp at hr;subst hr;exact⟨_,_,_,_,_,rfl,rfl⟩
 | 1,hr=>simp at hr;subst hr;exact⟨_,_,_,_,_,rfl,rfl⟩
 | 2,hr=>simp at hr;subst hr;exact⟨_,_,_,_,_,rfl,rfl⟩
 | 3,hr=>simp at hr;subst hr;exact⟨_,_,_,_,_,rfl,rfl⟩
 | i+4,hr=>simp at hr
theorem z1u:z0g [1,2,3,4]:=by unfold z0g;decide
theorem HpM.kind (H:HpM w h W G c room R X) (t:Int) (ht:1≤t∧t≤4):
  Calls Tryz.prog 93 #[.pointer (some ⟨h,1,none⟩),.int .i64 t] w fun e w'=>e=.returned (.tuple #[.agg #[.int .i64 (kmin t),.int .i64 (kmax t),.iface (ktt t) (kvv X.so X.s t)],.bool true])∧Below w.heap.size w w':=by
 have c1:=H.five.2.1
 have hr:t=1∨t=2∨t=3∨t=4:=by omega
 have hk:=z47 X.so X.s
 rcases hr with rfl|rfl|rfl|rfl
 ·exact z36 c1 H.kinds hk z1u (by decide) (i:=0) rfl 1 rfl
 ·exact z36 c1 H.kinds hk z1u (by decide) (i:=1) rfl 2 rfl
 ·exact z36 c1 H.kinds hk z1u (by decide) (i:=2) rfl 3 rfl
 ·exact z36 c1 H.kinds hk z1u (by decide) (i:=3) rfl 4 rfl
theorem HpM.kind_no (H:HpM w h W G c room R X) (t:Int) (ht:¬ (1≤t∧t≤4)):
  Calls Tryz.prog 93 #[.pointer (some ⟨h,1,none⟩),.int .i64 t] w fun e w'=>e=.returned (.tuple #[.agg #[.int .i64 0,.int .i64 0,.nilIface],.bool false])∧Below w.heap.size w w':=by
 refine zbP H.five.2.1 H.kinds (z47 X.so X.s) z1u (by decide) t ?_
 cases e:hasK [1,2,3,4] t with
 | false=>rfl
 | true =>
  have:=(z12 _ _).1 e
  simp only[List.mem_cons,List.not_mem_nil,or_false] at this
  omega
theorem HpM.agent (H:HpM w h W G c room R X) (g:Int) (r:Bool) (hr:r=true↔0≤g∧g<G):Calls Tryz.prog 115 #[.pointer (some ⟨X.b,0,none⟩),.int .i64 g] w fun e w'=>e=.returned (.bool r)∧w'=w:=by
 cases r with
 | true=>exact H.gd.agent_yes g (hr.1 rfl)
 | false=>exact H.gd.agent_no g (fun q=>by simpa using hr.2 q)
theorem z07 {w w1:World}(hb:Below w.heap.size w w1) (o:Obj):Below w.heap.size w (w1.alloc o):=hb.alloc hb.size o
theorem z72 (H:HpM w h W G c room R X) (t cls n:Int) (ht:¬ (1≤t∧t≤4)):
  Calls Tryz.prog 65 #[.pointer (some ⟨h,0,none⟩),.int .i64 t,.int .i64 cls,.int .i64 n] w fun e w'=>e=.returned (.int .i64 902)∧Below w.heap.size w w':=by
 have hh:=H.h_lt
 have hK:=H.kind_no t ht
 clear H ht
 go_enter Tryz.func65,Tryz.ntmps65
 go_wp2_with (go_at_call 93;refine hK.mono ?_;rintro e w1 ⟨rfl,hb⟩;clear hK)
 go_ret
 exact⟨rfl,z07 hb _⟩
theorem z71 (H:HpM w h W G c room R X) (t cls n:Int) (ht:1≤t∧t≤4) (hn:¬ ((kmin t≤n∧n≤kmax t)∧0≤cls)):
  Calls Tryz.prog 65 #[.pointer (some ⟨h,0,none⟩),.int .i64 t,.int .i64 cls,.int .i64 n] w fun e w'=>e=.returned (.int .i64 900)∧Below w.heap.size w w':=by
 have hh:=H.h_lt
 have hK:=H.kind t ht
 generalize kmin t=x at *
 generalize kmax t=y at *
 generalize ktt t=ty at *
 generalize kvv X.so X.s t=d at *
 clear H ht
 by_cases n1:n<x
 ·clear hn
  go_enter Tryz.func65,Tryz.ntmps65
  go_wp2_with (go_at_call 93;refine hK.mono ?_;rintro e w1 ⟨rfl,hb⟩;clear hK)
  go_ret
  exact⟨rfl,z07 hb _⟩
 ·have n1':decide (n<x)=false:=by simp;omega
  by_cases n2:y<n
  ·clear hn n1
   go_enter Tryz.func65,Tryz.ntmps65
   go_wp2_with (go_at_call 93;refine hK.mono ?_;rintro e w1 ⟨rfl,hb⟩;clear hK)
   go_ret
   exact⟨rfl,z07 hb _⟩
  ·have n2':decide (y<n)=false:=by simp;omega
   have n3:cls<0:=by omega
   clear hn n1 n2
   go_enter Tryz.func65,Tryz.ntmps65
   go_wp2_with (go_at_call 93;refine hK.mono ?_;rintro e w1 ⟨rfl,hb⟩;clear hK)
   go_ret
   exact⟨rfl,z07 hb _⟩
theorem z2I (H:HpM w h W G c room R X) (t cls n:Int) (ht:1≤t∧t≤4) (hn:(kmin t≤n∧n≤kmax t)∧0≤cls):
  Calls Tryz.prog 65 #[.pointer (some ⟨h,0,none⟩),.int .i64 t,.int .i64 cls,.int .i64 n] w fun e w'=>e=.returned (.int .i64 0)∧Below w.heap.size w w':=by
 have hh:=H.h_lt
 have hK:=H.kind t ht
 generalize kmin t=x at *
 generalize kmax t=y at *
 generalize ktt t=ty at *
 generalize kvv X.so X.s t=d at *
 have n1:decide (n<x)=false:=by simp;omega
 have n2:decide (y<n)=false:=by simp;omega
 have n3:decide (cls<0)=false:=by simp;omega
 clear H ht hn
 go_enter Tryz.func65,Tryz.ntmps65
 go_wp2_with (go_at_call 93;refine hK.mono ?_;rintro e w1 ⟨rfl,hb⟩;clear hK)
 go_ret
 exact⟨rfl,z07 hb _⟩
end
end Go.Proofs.YthkelaeemefnaaaGreat
namespace Go.Proofs.YthkelaeemefnaaaGreat
open Go.RowKit
theorem z64 (p : Addr) (w : World) : (Go.method 445 150 (.pointer (some p)) "Make").run Tryz.prog w = .ok (209, .pointer (some p)) w := by kernel_rfl
theorem z5F (v : Value) (w : World) : (Go.method 445 153 (.agg #[v]) "Make").run Tryz.prog w = .ok (273, .agg #[v]) w := by kernel_rfl
theorem z8p {w:World}{z ty:Nat}{a b c:Value}(h:w.heap[z]?=some (.cells #[a,b,c] ty (0,0))):w.cell? ⟨z,0,none⟩=some a∧w.cell? ⟨z,1,none⟩=some b∧w.cell? ⟨z,2,none⟩=some c:=by
 simp[World.cell?,h]
def zaX (w:World) (h W G m:Nat) (S:List (Option Cel)) (F:Nat→Nat→Int) (X:Hx) (t cls:Int) (n:Nat) (e:Ending) (w':World):Prop :=
 ∃ (i:Nat) (S':List (Option Cel)) (a:Int) (c':Int→Int),e=.returned (.tuple #[.int .i64 ((i:Int)+1),.int .i64 0])∧z23 S S' i ⟨t,cls,n,a⟩∧HpT w h W G (m+500) c' S' (setF F i (fun _=>0)) X w'
section
variable {w:World}{h W G m:Nat}{c:Int→Int}{S:List (Option Cel)}{F:Nat→Nat→Int}{X:Hx}
structure Mid (w:World) (h W G m:Nat) (c:Int→Int) (S:List (Option Cel)) (F:Nat→Nat→Int) (X:Hx) (cl:Cel) (w2:World):Prop where
 mid:∃ (c':Int→Int) (Y:Hx),HpM w2 h W G c' ((z06 W:Int)-sumS S) (z0y Y.so Y.s S) Y∧Y.so=X.so∧Y.s=X.s∧Y.ln=X.ln∧Y.vc=X.vc∧Bt (X.own h) w w2∧Wider (X.own h) (Y.own h) w ∧
  ∀ (S':List (Option Cel)) (i:Nat) (w3:World) (vc:Value) (ln:Nat),z23 S S' i cl→S'.length≤S.length+1→Tab S' ln→HpM w3 h W G c' ((z06 W:Int)-sumS S') (z0y Y.so Y.s S') { Y with vc:=vc,ln:=ln }→HpC w3 h W G (m+500) c' S' (setF F i (fun _=>0)) { Y with vc:=vc,ln:=ln }
theorem zdv {c c':Int→Int}{g k K:Int}(h:Few K (natf c)) (hu:Up c c' g k) (hk:0≤k):Few (K+k) (natf c'):=fun j=>by
 have h1:=h j
 show 0≤c' j∧c' j≤K+k
 have h2:0≤c j∧c j≤K:=h1
 by_cases e:(j:Int)=g
 ·have:=hu.2;rw[← e] at this;omega
 ·rw[hu.1 j e];omega
theorem HpC.mid_ob (H:HpC w h W G m c S F X) {n:Nat}(hn:n≤64) {t cls:Int}(ht:t=1∨t=4) {cc:Nat→Nat}{xs:List Int}{cs ws:Nat→Int}{D:DataW Unit}{P2:Nat→Prop}{w2:World}(hfit:sumS S+(n+16)≤z06 W) (hm:m≤2000000)
  (hC:Chn 0 X.N X.ws ws (frg n) cc) (hg:Grew (natf c) cs 300) (hS:Sto w2 P2 X.so X.mb X.p X.b W 0 X.N G cs (X.T+frg n) xs ws (X.nn+1) D (X.O++[⟨n,cc⟩])) (hB:Bt X.P2 w w2) (hW:Wider X.P2 P2 w):Mid w h W G m c S F X ⟨t,cls,n,(cc 0:Int)+1⟩ w2:=by
 obtain⟨P1,V,hM,hV,hB2,hW2⟩:=H.mem.store hS hB hW fun a ha=>hC.old a fun k hk=>by
  have:=hC.lt k hk
  constructor<;>omega
 refine⟨intf cs,{ X with P1:=P1,P2:=P2,T:=X.T+frg n,xs:=xs,ws:=ws,nn:=X.nn+1,D:=D,O:=X.O++[⟨n,cc⟩],V:=V },hM,rfl,rfl,rfl,rfl,hB2,hW2,fun S' i w3 vc ln hA hl hT hM3=>?_⟩
 have hob:(⟨t,cls,n,(cc 0:Int)+1⟩:Cel).ob=true:=by rcases ht with rfl|rfl<;>rfl
 have hx:∀ x∈X.q.xs,x.id≠-1:=fun x hx=>by
  obtain⟨_,_,_,_,f,_,hI⟩:=H.mem.gd
  have:=(hI.ids x hx).1
  omega
 have hL0:Lnk S F X.O X.ws X.q.xs V:=H.lnk.same (fun _ _ _=>rfl) rfl (fun x hxx j=>hV _ (hx x hxx) j)
 have hinv:=H.mem.sto.inv
 have hL:=hL0.make_ob hA hob (o:=⟨n,cc⟩) rfl rfl (ws':=ws) (fun j=>hC.field) (fun z hz j=>hinv.make_old hC hz) (fun z hz=>hinv.make_ref hC hz)
 have hf:=H.few
 have h9:=z13 hn
 refine⟨hM3,hT,hL,H.enough,H.big,by rw[hA.sum];exact hfit,H.half,H.calm,⟨?_,?_,?_,by omega⟩,?_⟩
 ·show 25*(X.T+frg n)≤((m+500:Nat):Int);omega
 ·show 500*(X.nn+1)≤m+500;omega
 ·show 500*X.q.given≤((m+500:Nat):Int);omega
 ·rw[z1l]
  exact (hg _ (by omega) (by omega) H.cnt).mono (by omega)
theorem HpC.mid_ar (H:HpC w h W G m c S F X) {n:Nat}{t cls g:Int}(ht:t=2∨t=3) {q':St}{c':Int→Int}{w2:World}(hfit:sumS S+(n+16)≤z06 W)
  (hS:Same X.q q') (hu:Up c c' g 150000) (hT:SpTurn w X.P1 X.s X.b W G (made q' n) (fun id i=>if id=X.q.given+1 then 0 else X.V id i) c' w2):Mid w h W G m c S F X ⟨t,cls,n,X.q.given+1⟩ w2:=by
 obtain⟨_,_,_,_,f,_,hI⟩:=H.mem.gd
 have hg0:=hI.given0
 obtain⟨P1,ws,hM,hw,hB2,hW2⟩:=H.mem.space hT hS.base hS.half fun a=>if_neg (by omega)
 refine⟨c',{ X with P1:=P1,ws:=ws,q:=made q' n,V:=fun id i=>if id=X.q.given+1 then 0 else X.V id i },hM,rfl,rfl,rfl,rfl,hB2,hW2,fun S' i w3 vc ln hA hl hTb hM3=>?_⟩
 have hob:(⟨t,cls,n,X.q.given+1⟩:Cel).ob=false:=by rcases ht with rfl|rfl<;>rfl
 have hinv:=H.mem.sto.inv
 have hids:∀ z∈q'.xs,z.id≤X.q.given:=fun z hz=>by
  have hm:(z.id,z.n)∈X.q.xs.map (fun z=>(z.id,z.n)):=by rw[← hS.shape];exact List.mem_map.2 ⟨z,hz,rfl⟩
  obtain⟨y,hy,e⟩:=List.mem_map.1 hm
  simp only[Prod.mk.injEq] at e
  have:=(hI.ids y hy).2.1
  omega
 have hL0:Lnk S F X.O ws q'.xs X.V:=H.lnk.same (fun o ho j=>hw _ (by
  have h1:=(hinv.used o ho _ (z0T j o.n)).1
  have h2:=z2c j o.n
  unfold Ob.ad
  omega)) hS.shape (fun _ _ _=>rfl)
 have hL:=hL0.make_ar hA hob (x:=⟨q'.given+1,z0B q',n⟩) (by show q'.given+1=_;rw[hS.given]) rfl (V':=fun id i=>if id=X.q.given+1 then 0 else X.V id i) (fun j=>by show (if q'.given+1=_ then _ else _)=_;rw[hS.given,if_pos rfl]) (fun z hz j=>by have:=hids z hz;exact if_neg (by omega)) (fun z hz=>by have:=hids z hz;show z.id≠q'.given+1;rw[hS.given];omega)
 have hf:=H.few
 refine⟨hM3,hTb,hL,H.enough,H.big,by rw[hA.sum];exact hfit,hS.half.trans H.half,hS.off,⟨?_,?_,?_,by omega⟩,?_⟩
 ·show 25*X.T≤((m+500:Nat):Int);omega
 ·show 500*X.nn≤m+500;omega
 ·show 500*(q'.given+1)≤((m+500:Nat):Int);rw[hS.given];omega
 ·exact (zdv H.cnt hu (by omega)).mono (by omega)
theorem HpC.below {w':World}(H:HpC w h W G m c S F X) (b:Below w.heap.size w w'):HpC w' h W G m c S F X :=
 ⟨H.mem.below b,H.tab,H.lnk,H.enough,H.big,H.fit,H.half,H.calm,H.few,H.cnt⟩
theorem HpT.after {w1 w':World}{m':Nat}{c':Int→Int}{S':List (Option Cel)}{F':Nat→Nat→Int}(hb:Below w.heap.size w w1) (ht:HpT w1 h W G m' c' S' F' X w'):HpT w h W G m' c' S' F' X w':=by
 obtain⟨X',h1,h2,h3⟩:=ht
 exact⟨X',h1,(Bt.of_below hb).trans h2,fun k hk=>(h3 k hk).imp id (fun r=>Nat.le_trans hb.size r)⟩
theorem HpC.room_obj (H:HpC w h W G m c S F X) {n:Nat}(hn:n≤64) (hfit:sumS S+(n+16)≤z06 W):1+(n+5)/6≤X.xs.length:=by
 have hs:=H.lnk.sum
 have h2:=(z9i X.q.xs (fun x hx=>by
  obtain⟨_,_,_,_,f,_,hI⟩:=H.mem.gd
  exact (hI.ids x hx).2.2))
 exact H.enough.obj H.mem.sto.inv.size H.mem.sto.inv.sum hn (by omega)
theorem HpC.room_arr (H:HpC w h W G m c S F X) {n:Nat}(hfit:sumS S+(n+16)≤z06 W):sumG sz X.q.xs+((n:Int)+4)≤X.q.half:=by
 have hs:=H.lnk.sum
 rw[H.half]
 exact H.enough.arr H.big.1 (fun x hx=>by
  obtain⟨_,_,_,_,f,_,hI⟩:=H.mem.gd
  exact (hI.ids x hx).2.2) (by omega)
end
end Go.Proofs.YthkelaeemefnaaaGreat
