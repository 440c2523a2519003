import Derived.Test.YthkelaeemefnaaaGreatMY24
set_option maxRecDepth 20000
set_option maxHeartbeats 1000000
namespace Go.Proofs.YthkelaeemefnaaaGreat
open Go.RowKit
section
variable {w:World}{h W G m:Nat}{c:Int→Int}{S:List (Option Cel)}{F:Nat→Nat→Int}{X:Hx}
theorem zcB (H:HpC w h W G m c S F X) (hm:m≤2000000) (g:Nat) (hg:g<G) (t cls:Int) (n:Nat) (ht:t=1∨t=4) (hn:kmin t≤n∧n≤kmax t) (hcls:0≤cls) (hfit:sumS S+(n+16)≤z06 W):
  Calls Tryz.prog 94 #[.pointer (some ⟨h,0,none⟩),.int .i64 g,.int .i64 t,.int .i64 cls,.int .i64 n] w (zaX w h W G m S F X t cls n):=by
 have cc:=H.mem.five
 have hh:=H.mem.h_lt
 have hgi:(0:Int)≤g∧(g:Int)<G:=by omega
 have hA:=H.mem.agent g true (by simpa using hgi)
 have hc1:∀ w1,Below w.heap.size w w1→(w1.cell? ⟨h,0,none⟩=some (.pointer (some ⟨X.b,0,none⟩))∧w1.cell? ⟨h,5,none⟩=some (.int .i64 ((z06 W:Int)-sumS S)))∧h<w1.heap.size:=fun w1 hb=>⟨⟨(H.mem.below hb).five.1,(H.mem.below hb).five.2.2.2.2⟩,(H.mem.below hb).h_lt⟩
 have hK:=fun w1 (hb:Below w.heap.size w w1)=>(H.mem.below hb).kind t (by omega)
 have hn2:n≤1000:=by
  have h2:kmax t≤1000:=by unfold kmax;split<;>(try split)<;>omega
  omega
 have e1:ktt t=150:=if_pos ht
 have e2:kvv X.so X.s t=.pointer (some ⟨X.so,0,none⟩):=if_pos ht
 have hn64:n≤64:=by rcases ht with rfl|rfl<;>simp[kmax] at hn<;>omega
 have ek:∀ a:Int,kty (⟨t,cls,n,a⟩:Cel)=150∧kvl X.so X.s (⟨t,cls,n,a⟩:Cel)=.pointer (some ⟨X.so,0,none⟩):=fun a=>by
  have:=zdg X.so X.s (⟨t,cls,n,a⟩:Cel)
  exact⟨this.1.symm.trans e1,this.2.symm.trans e2⟩
 have HS:Hid (∀ w2,Below w.heap.size w w2→Calls Tryz.prog 209 #[.pointer (some ⟨X.so,0,none⟩),.int .i64 g,.int .i64 n] w2 fun e w3=>∃ a:Int,e=.returned (.tuple #[.int .i64 a,.int .i64 0])∧Mid w2 h W G m c S F X ⟨t,cls,n,a⟩ w3):=fun w2 hb=>by
  have H2:=H.below hb
  have hf:=H2.few
  refine (zdZ H2.mem.sto g n hg hn64 (by omega) (H2.room_obj hn64 hfit) (by omega)).mono ?_
  rintro e w3 ⟨c0,xs',cs',ws',D',P',rfl,hCh,hl,hgr,hS,hB,hW⟩
  exact⟨_,rfl,H2.mid_ob hn64 ht hfit hm hCh hgr hS hB hW⟩
 rw[e1,e2] at hK
 have HR:Hid (z06 W≤6000∧sumS S+(n+16)≤z06 W):=⟨by have:=H.big;unfold z06;omega,hfit⟩
 have hC:=z0U (n:Int) (by omega)
 have HL:Hid (∀ k,X.own h k→k<w.heap.size):=fun k hk=>H.mem.own_lt hk
 have HT:Hid (Tab S X.ln∧S.length≤100000):=⟨H.tab,by have:=H.few;omega⟩
 have hCk:=z2I H.mem t cls n (by omega) ⟨hn,hcls⟩
 have n1:decide ((n:Int)<kmin t)=false:=by simp;omega
 have n2:decide (kmax t<(n:Int))=false:=by simp;omega
 have n3:decide (cls<0)=false:=by simp;omega
 have hro:∃ ro:Int,ro=(z06 W:Int)-sumS S:=⟨_,rfl⟩
 obtain⟨ro,hro⟩:=hro
 have Hro:Hid (ro=(z06 W:Int)-sumS S):=hro
 have r1:(n:Int)+16≤ro:=by rw[hro];omega
 have r2:ro≤6000:=by have:=HR.out.1;omega
 have rd:decide (ro<(n:Int)+16)=false:=by simp;omega
 have ew:IntKind.i64.wrap (ro-((n:Int)+16))=ro-((n:Int)+16):=by rw[IntKind.wrap_i64];omega
 rw[← hro] at hc1 cc
 have hm2:=z64
 have hm3:=z5F
 generalize kmin t=x at *
 generalize kmax t=y at *
 clear H hg hgi hn hfit hro e1 e2 hn2
 go_enter Tryz.func94,Tryz.ntmps94
 go_wp2_with (first
  | (go_at_call 115;refine hA.mono ?_;rintro e w9 ⟨rfl,hw9⟩;replace hw9:=hw9.symm;subst hw9)
  | (go_at_call 65;refine hCk.mono ?_;rintro e w8 ⟨rfl,hb8⟩;have k8:=hc1 w8 hb8;clear hCk))
 go_quiet ((go_at_call 56;exact Calls.quiet_of_same (hC _)))
 have hb9:Below w.heap.size w (w8.drewN nq):=hb8.trans (z00 _ _ _)
 have hK9:=hK _ hb9
 have k9:h<(w8.drewN nq).heap.size:=(hc1 _ hb9).2
 have HX:Hid (Below w.heap.size w (w8.drewN nq)):=hb9
 generalize w8.drewN nq=w7 at *
 go_wp2_with (go_at_call 93;refine hK9.mono ?_;rintro e w1 ⟨rfl,hb1⟩;have hb:Below w.heap.size w w1:=HX.out.trans (hb1.mono HX.out.size);have k1:=hc1 w1 hb;clear hK hK9)
 obtain⟨w2,hw2⟩:∃ w2,w2=w1.alloc (.cells #[.int .i64 x,.int .i64 y,.iface 150 (.pointer (some ⟨X.so,0,none⟩))] 133):=⟨_,rfl⟩
 have hb2:Below w.heap.size w w2:=by rw[hw2];exact z07 hb _
 have kb2:w2.heap[w1.heap.size]?=some (.cells #[.int .i64 x,.int .i64 y,.iface 150 (.pointer (some ⟨X.so,0,none⟩))] 133 (0,0)):=by rw[hw2];exact heap_alloc_new w1 _
 have zz:w.heap.size≤w1.heap.size:=hb.size
 rw[← hw2]
 clear hw2 hb k1 hA hc1 cc hb8 k8 hb9 HX k9 hb1
 generalize w1.heap.size=z at *
 have z2:=z8p kb2
 have z3:=z02 kb2
 have hS2:=HS.out w2 hb2
 clear HS
 go_wp2_with (go_at_call 209;refine hS2.mono ?_;rintro e w3 ⟨a,rfl,hMid⟩;obtain⟨c',Y,hY,y1,y2,y3,y4,hB3,hW3,hfin⟩:=hMid.mid;have kb3:=(hB3.block z z3 (fun r=>by have:=HL.out z r;omega)).trans kb2;have z4:=z8p kb3;have z5:=z02 kb3;have c5:=hY.five.2.2.2.2;rw[← Hro.out] at c5;have f5:=frz hY.here 5;have h3:=hY.h_lt;have HF:Hid (HpM w3 h W G c' ((z06 W:Int)-sumS S) (z0y Y.so Y.s S) Y∧Y.so=X.so∧Y.s=X.s∧Y.ln=X.ln∧Bt (X.own h) w2 w3∧Wider (X.own h) (Y.own h) w2):=⟨hY,y1,y2,y3,hB3,hW3⟩;have HN:Hid (∀ (S':List (Option Cel)) (i:Nat) (w4:World) (vc:Value) (ln:Nat),z23 S S' i ⟨t,cls,n,a⟩→S'.length≤S.length+1→Tab S' ln→HpM w4 h W G c' ((z06 W:Int)-sumS S') (z0y Y.so Y.s S') { Y with vc:=vc,ln:=ln }→HpC w4 h W G (m+500) c' S' (setF F i (fun _=>0)) { Y with vc:=vc,ln:=ln }):=hfin;clear hS2 hMid hY y1 y2 y3 y4 hB3 hW3 hfin)
 have zh:z≠h:=fun e=>by have:=HF.out.1.here;rw[← e,kb3] at this;simp at this
 go_region_with (go_at_call 56;refine (hC _).mono ?_;rintro e w9 ⟨rfl,hw9⟩;replace hw9:=hw9.symm;subst hw9)
 all_goals
  obtain⟨q1,q2⟩:=HF.out.1.poke (ro-((n:Int)+16))
  have q3:=q1.below (w':=World.drew _) (z00 _ 1 _)
  have q4:Bt (Y.own h) w3 (World.drew _):=q2.trans (Bt.of_below (z00 _ 1 _))
  have kb4:(World.drew (w3.setCell ⟨h,5,none⟩ (.int .i64 (ro-((n:Int)+16))))).heap[z]?=some (.cells #[.int .i64 x,.int .i64 y,.iface 150 (.pointer (some ⟨X.so,0,none⟩))] 133 (0,0)):=(z03 _ _ zh).trans kb3
  generalize World.drew _=w4 at *
  have HP:Hid (HpM w4 h W G c' (ro-((n:Int)+16)) (z0y Y.so Y.s S) Y∧Bt (Y.own h) w3 w4):=⟨q3,q4⟩
  have z6:=z8p kb4
  have z7:=z02 kb4
  have h4:=q3.h_lt
  have hAdd:∀ w5,Below w4.heap.size w4 w5→Calls Tryz.prog 116 #[.pointer (some ⟨h,3,none⟩),.agg #[.int .i64 t,.int .i64 cls,.int .i64 n,.iface 150 (.pointer (some ⟨X.so,0,none⟩)),.int .i64 a]] w5 (AddT w4 h W G c' (ro-((n:Int)+16)) S Y ⟨t,cls,n,a⟩):=fun w5 hb5=>by
   have hA:=za7 (HP.out.1.below hb5) (by rw[HF.out.2.2.2.1];exact HT.out.1) HT.out.2 ⟨t,cls,n,a⟩
   have e:=ek a
   rw[← HF.out.2.1,← HF.out.2.2.1] at e
   rw[e.1,e.2,HF.out.2.1] at hA
   exact hA.mono fun e w6 hx=>hx.after hb5
  clear q1 q2 q3 q4 kb4 kb3 z4 z5 c5 f5
  go_wp2
  go_region_with (go_at_call 116;refine (hAdd _ (by first|exact (z07 (Below.refl _ _) _).drew|exact ((z00 w4 1 _)).alloc (Nat.le_refl _) _)).mono ?_;rintro e w6 ⟨i,S',rfl,hAd,hl,vc,ln,hM6,hT6,hB6,hW6⟩)
  all_goals
   go_wp2
   go_ret2
   have hs:=hAd.sum
   have hro:=Hro.out
   refine⟨i,S',a,c',rfl,hAd,HpT.after hb2 ⟨_,HN.out S' i w6 vc ln hAd hl hT6 ?_,?_,?_⟩⟩
   ·have e:(z06 W:Int)-sumS S'=ro-((n:Int)+16):=by rw[hs,hro];show (z06 W:Int)-((sumS S+(n+16):Nat):Int)=_;omega
    rw[e];exact hM6
   ·exact HF.out.2.2.2.2.1.wide (HP.out.2.trans hB6) HF.out.2.2.2.2.2
   ·refine HF.out.2.2.2.2.2.trans hW6 (Nat.le_trans HF.out.2.2.2.2.1.size HP.out.2.size)
end
end Go.Proofs.YthkelaeemefnaaaGreat
namespace Go.Proofs.YthkelaeemefnaaaGreat
open Go.RowKit
section
variable {w:World}{h W G m:Nat}{c:Int→Int}{S:List (Option Cel)}{F:Nat→Nat→Int}{X:Hx}
theorem zbM (H:HpC w h W G m c S F X) (hm:m≤2000000) (g:Nat) (hg:g<G) (t cls:Int) (n:Nat) (ht:t=2∨t=3) (hn:kmin t≤n∧n≤kmax t) (hcls:0≤cls) (hfit:sumS S+(n+16)≤z06 W):
  Calls Tryz.prog 94 #[.pointer (some ⟨h,0,none⟩),.int .i64 g,.int .i64 t,.int .i64 cls,.int .i64 n] w (zaX w h W G m S F X t cls n):=by
 have cc:=H.mem.five
 have hh:=H.mem.h_lt
 have hgi:(0:Int)≤g∧(g:Int)<G:=by omega
 have hA:=H.mem.agent g true (by simpa using hgi)
 have hc1:∀ w1,Below w.heap.size w w1→(w1.cell? ⟨h,0,none⟩=some (.pointer (some ⟨X.b,0,none⟩))∧w1.cell? ⟨h,5,none⟩=some (.int .i64 ((z06 W:Int)-sumS S)))∧h<w1.heap.size:=fun w1 hb=>⟨⟨(H.mem.below hb).five.1,(H.mem.below hb).five.2.2.2.2⟩,(H.mem.below hb).h_lt⟩
 have hK:=fun w1 (hb:Below w.heap.size w w1)=>(H.mem.below hb).kind t (by omega)
 have hn2:n≤1000:=by
  have h2:kmax t≤1000:=by unfold kmax;split<;>(try split)<;>omega
  omega
 have e1:ktt t=153:=if_neg (by omega)
 have e2:kvv X.so X.s t=.agg #[.pointer (some ⟨X.s,0,none⟩)]:=if_neg (by omega)
 have ek:∀ a:Int,kty (⟨t,cls,n,a⟩:Cel)=153∧kvl X.so X.s (⟨t,cls,n,a⟩:Cel)=.agg #[.pointer (some ⟨X.s,0,none⟩)]:=fun a=>by
  have:=zdg X.so X.s (⟨t,cls,n,a⟩:Cel)
  exact⟨this.1.symm.trans e1,this.2.symm.trans e2⟩
 have HS:Hid (∀ w2,Below w.heap.size w w2→Calls Tryz.prog 273 #[.agg #[.pointer (some ⟨X.s,0,none⟩)],.int .i64 g,.int .i64 n] w2 fun e w3=>∃ a:Int,e=.returned (.tuple #[.int .i64 a,.int .i64 0])∧Mid w2 h W G m c S F X ⟨t,cls,n,a⟩ w3):=fun w2 hb=>by
  have H2:=H.below hb
  have hf:=H2.few
  have hcg:0≤c g∧c g≤400*(m:Int):=H2.cnt g
  refine (zbU H2.mem.gd H2.mem.lt1 H2.calm g n hgi (by omega) (H2.room_arr hfit) (by omega) (by omega)).mono ?_
  rintro e w3 ⟨rfl,q',c',hS,hu,hT⟩
  exact⟨_,rfl,H2.mid_ar ht hfit hS hu hT⟩
 rw[e1,e2] at hK
 have HR:Hid (z06 W≤6000∧sumS S+(n+16)≤z06 W):=⟨by have:=H.big;unfold z06;omega,hfit⟩
 have hC:=z0U (n:Int) (by omega)
 have HL:Hid (∀ k,X.own h k→k<w.heap.size):=fun k hk=>H.mem.own_lt hk
 have HT:Hid (Tab S X.ln∧S.length≤100000):=⟨H.tab,by have:=H.few;omega⟩
 have hCk:=z2I H.mem t cls n (by omega) ⟨hn,hcls⟩
 have n1:decide ((n:Int)<kmin t)=false:=by simp;omega
 have n2:decide (kmax t<(n:Int))=false:=by simp;omega
 have n3:decide (cls<0)=false:=by simp;omega
 have hro:∃ ro:Int,ro=(z06 W:Int)-sumS S:=⟨_,rfl⟩
 obtain⟨ro,hro⟩:=hro
 have Hro:Hid (ro=(z06 W:Int)-sumS S):=hro
 have r1:(n:Int)+16≤ro:=by rw[hro];omega
 have r2:ro≤6000:=by have:=HR.out.1;omega
 have rd:decide (ro<(n:Int)+16)=false:=by simp;omega
 have ew:IntKind.i64.wrap (ro-((n:Int)+16))=ro-((n:Int)+16):=by rw[IntKind.wrap_i64];omega
 rw[← hro] at hc1 cc
 have hm2:=z64
 have hm3:=z5F
 generalize kmin t=x at *
 generalize kmax t=y at *
 clear H hg hgi hn hfit hro e1 e2 hn2
 go_enter Tryz.func94,Tryz.ntmps94
 go_wp2_with (first
  | (go_at_call 115;refine hA.mono ?_;rintro e w9 ⟨rfl,hw9⟩;replace hw9:=hw9.symm;subst hw9)
  | (go_at_call 65;refine hCk.mono ?_;rintro e w8 ⟨rfl,hb8⟩;have k8:=hc1 w8 hb8;clear hCk))
 go_quiet ((go_at_call 56;exact Calls.quiet_of_same (hC _)))
 have hb9:Below w.heap.size w (w8.drewN nq):=hb8.trans (z00 _ _ _)
 have hK9:=hK _ hb9
 have k9:h<(w8.drewN nq).heap.size:=(hc1 _ hb9).2
 have HX:Hid (Below w.heap.size w (w8.drewN nq)):=hb9
 generalize w8.drewN nq=w7 at *
 go_wp2_with (go_at_call 93;refine hK9.mono ?_;rintro e w1 ⟨rfl,hb1⟩;have hb:Below w.heap.size w w1:=HX.out.trans (hb1.mono HX.out.size);have k1:=hc1 w1 hb;clear hK hK9)
 obtain⟨w2,hw2⟩:∃ w2,w2=w1.alloc (.cells #[.int .i64 x,.int .i64 y,.iface 153 (.agg #[.pointer (some ⟨X.s,0,none⟩)])] 133):=⟨_,rfl⟩
 have hb2:Below w.heap.size w w2:=by rw[hw2];exact z07 hb _
 have kb2:w2.heap[w1.heap.size]?=some (.cells #[.int .i64 x,.int .i64 y,.iface 153 (.agg #[.pointer (some ⟨X.s,0,none⟩)])] 133 (0,0)):=by rw[hw2];exact heap_alloc_new w1 _
 have zz:w.heap.size≤w1.heap.size:=hb.size
 rw[← hw2]
 clear hw2 hb k1 hA hc1 cc hb8 k8 hb9 HX k9 hb1
 generalize w1.heap.size=z at *
 have z2:=z8p kb2
 have z3:=z02 kb2
 have hS2:=HS.out w2 hb2
 clear HS
 go_wp2_with (go_at_call 273;refine hS2.mono ?_;rintro e w3 ⟨a,rfl,hMid⟩;obtain⟨c',Y,hY,y1,y2,y3,y4,hB3,hW3,hfin⟩:=hMid.mid;have kb3:=(hB3.block z z3 (fun r=>by have:=HL.out z r;omega)).trans kb2;have z4:=z8p kb3;have z5:=z02 kb3;have c5:=hY.five.2.2.2.2;rw[← Hro.out] at c5;have f5:=frz hY.here 5;have h3:=hY.h_lt;have HF:Hid (HpM w3 h W G c' ((z06 W:Int)-sumS S) (z0y Y.so Y.s S) Y∧Y.so=X.so∧Y.s=X.s∧Y.ln=X.ln∧Bt (X.own h) w2 w3∧Wider (X.own h) (Y.own h) w2):=⟨hY,y1,y2,y3,hB3,hW3⟩;have HN:Hid (∀ (S':List (Option Cel)) (i:Nat) (w4:World) (vc:Value) (ln:Nat),z23 S S' i ⟨t,cls,n,a⟩→S'.length≤S.length+1→Tab S' ln→HpM w4 h W G c' ((z06 W:Int)-sumS S') (z0y Y.so Y.s S') { Y with vc:=vc,ln:=ln }→HpC w4 h W G (m+500) c' S' (setF F i (fun _=>0)) { Y with vc:=vc,ln:=ln }):=hfin;clear hS2 hMid hY y1 y2 y3 y4 hB3 hW3 hfin)
 have zh:z≠h:=fun e=>by have:=HF.out.1.here;rw[← e,kb3] at this;simp at this
 go_region_with (go_at_call 56;refine (hC _).mono ?_;rintro e w9 ⟨rfl,hw9⟩;replace hw9:=hw9.symm;subst hw9)
 all_goals
  obtain⟨q1,q2⟩:=HF.out.1.poke (ro-((n:Int)+16))
  have q3:=q1.below (w':=World.drew _) (z00 _ 1 _)
  have q4:Bt (Y.own h) w3 (World.drew _):=q2.trans (Bt.of_below (z00 _ 1 _))
  have kb4:(World.drew (w3.setCell ⟨h,5,none⟩ (.int .i64 (ro-((n:Int)+16))))).heap[z]?=some (.cells #[.int .i64 x,.int .i64 y,.iface 153 (.agg #[.pointer (some ⟨X.s,0,none⟩)])] 133 (0,0)):=(z03 _ _ zh).trans kb3
  generalize World.drew _=w4 at *
  have HP:Hid (HpM w4 h W G c' (ro-((n:Int)+16)) (z0y Y.so Y.s S) Y∧Bt (Y.own h) w3 w4):=⟨q3,q4⟩
  have z6:=z8p kb4
  have z7:=z02 kb4
  have h4:=q3.h_lt
  have hAdd:∀ w5,Below w4.heap.size w4 w5→Calls Tryz.prog 116 #[.pointer (some ⟨h,3,none⟩),.agg #[.int .i64 t,.int .i64 cls,.int .i64 n,.iface 153 (.agg #[.pointer (some ⟨X.s,0,none⟩)]),.int .i64 a]] w5 (AddT w4 h W G c' (ro-((n:Int)+16)) S Y ⟨t,cls,n,a⟩):=fun w5 hb5=>by
   have hA:=za7 (HP.out.1.below hb5) (by rw[HF.out.2.2.2.1];exact HT.out.1) HT.out.2 ⟨t,cls,n,a⟩
   have e:=ek a
   rw[← HF.out.2.1,← HF.out.2.2.1] at e
   rw[e.1,e.2,HF.out.2.2.1] at hA
   exact hA.mono fun e w6 hx=>hx.after hb5
  clear q1 q2 q3 q4 kb4 kb3 z4 z5 c5 f5
  go_wp2
  go_region_with (go_at_call 116;refine (hAdd _ (by first|exact (z07 (Below.refl _ _) _).drew|exact ((z00 w4 1 _)).alloc (Nat.le_refl _) _)).mono ?_;rintro e w6 ⟨i,S',rfl,hAd,hl,vc,ln,hM6,hT6,hB6,hW6⟩)
  all_goals
   go_wp2
   go_ret2
   have hs:=hAd.sum
   have hro:=Hro.out
   refine⟨i,S',a,c',rfl,hAd,HpT.after hb2 ⟨_,HN.out S' i w6 vc ln hAd hl hT6 ?_,?_,?_⟩⟩
   ·have e:(z06 W:Int)-sumS S'=ro-((n:Int)+16):=by rw[hs,hro];show (z06 W:Int)-((sumS S+(n+16):Nat):Int)=_;omega
    rw[e];exact hM6
   ·exact HF.out.2.2.2.2.1.wide (HP.out.2.trans hB6) HF.out.2.2.2.2.2
   ·refine HF.out.2.2.2.2.2.trans hW6 (Nat.le_trans HF.out.2.2.2.2.1.size HP.out.2.size)
end
end Go.Proofs.YthkelaeemefnaaaGreat
