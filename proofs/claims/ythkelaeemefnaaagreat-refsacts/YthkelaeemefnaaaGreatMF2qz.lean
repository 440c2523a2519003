import Derived.Test.YthkelaeemefnaaaGreatMF1qz
import Derived.Test.YthkelaeemefnaaaGreatMY5
set_option maxRecDepth 20000
set_option maxHeartbeats 2000000
namespace Go.Proofs.YthkelaeemefnaaaGreat
open Go.RowKit
def Turn (w:World) (P:Nat→Prop) (p b W base n G:Nat) (cs':Nat→Int) (T':Int) (xs':List Int) (ws':Nat→Int) (w':World):Prop:=∃ P',Pl w' P' p b W base n G cs' T' xs' ws'∧Bt P w w'∧Wider P P' w
theorem PlC.turn {w':World}{w:World}{P Q:Nat→Prop}{p s bc pl k b W base n G:Nat}{cs:Nat→Int}{T:Int}{xs:List Int}{ws:Nat→Int}(h:PlC w P Q p s bc pl k b W base n G cs T xs ws) {Q':Nat→Prop}{cs' ws':Nat→Int}{T':Int}{xs':List Int}(hG:Good w' Q' s ⟨b,W,base+9*n,ws'⟩ G n cs' calm T' xs') (hB:Bt Q w w') (hW:Wider Q Q' w)
  (hc:∀ f,f<n→0≤ws' (base+8*n+f)∧ws' (base+8*n+f)≤3∧(ws' (base+8*n+f)=0↔(f:Int)+1∈xs')):Turn w P p b W base n G cs' T' xs' ws' w':=by
 obtain⟨h1,h2,h3⟩:=h.move hG hB hW hc
 exact⟨_,⟨_,_,_,_,_,h1⟩,h2,h3⟩
theorem Turn.after {w w1 w':World}{P:Nat→Prop}{p b W base n G:Nat}{cs':Nat→Int}{T':Int}{xs':List Int}{ws':Nat→Int}(h:Turn w1 P p b W base n G cs' T' xs' ws' w') (hb:Below w.heap.size w w1):Turn w P p b W base n G cs' T' xs' ws' w':=by
 obtain⟨P',h1,h2,h3⟩:=h
 exact⟨P',h1,(Bt.of_below hb).trans h2,fun j hj=>(h3 j hj).elim .inl (fun q=>.inr (Nat.le_trans hb.size q))⟩
theorem z8a {ws:Nat→Int}{base n:Nat}{xs:List Int}{f i:Nat}{v:Int}(hf:f<n) (hi:i<8) (hc:∀ f,f<n→0≤ws (base+8*n+f)∧ws (base+8*n+f)≤3∧(ws (base+8*n+f)=0↔(f:Int)+1∈xs)):
  ∀ m,m<n→0≤upd ws (base+8*f+i) v (base+8*n+m)∧upd ws (base+8*f+i) v (base+8*n+m)≤3∧(upd ws (base+8*f+i) v (base+8*n+m)=0↔(m:Int)+1∈xs):=by
 intro m hm
 rw[z09 _ _ (by omega)]
 exact hc m hm
theorem zbm {w:World}{P:Nat→Prop}{p b W base n G:Nat}{cs:Nat→Int}{T:Int}{xs:List Int}{ws:Nat→Int}(h:Pl w P p b W base n G cs T xs ws) (g f i:Nat) (hg:g<G) (hf:zaZ ws base n f) (hi:i<8):
  Calls Tryz.prog 216 #[.pointer (some ⟨p,0,none⟩),.int .i64 g,.int .i64 f,.int .i64 i] w fun e w'=>e=.returned (.tuple #[.int .i64 (ws (base+8*f+i)),.int .i64 0])∧Turn w P p b W base n G (upd cs g (wrap64 (cs g+1))) T xs ws w':=by
 obtain⟨Q,s,bc,pl,k,h⟩:=h
 have hf1:f<n:=by have:=hf.2.1;omega
 have hu:=z2M h (g:Int) f (by omega) hf
 have hw:=fun u=>z3S (i:Int) u true (by simp;omega)
 have h1:=h.fit
 have h2:=h.big
 go_enter Tryz.func216,Tryz.ntmps216
 go_wp2_with (first
  | (go_at_call 225;refine hu.mono ?_;rintro e w1 ⟨rfl,hb⟩;have h':=h.below hb;have c1:=h'.c8)
  | (go_at_call 229;refine (hw _).mono ?_;rintro e w1 ⟨rfl,rfl⟩))
 have hd:=h'.below (z00 w1 1 _)
 go_region_held3 (fun w'=>w'.cell? ⟨p,0,none⟩=some (.pointer (some ⟨b,0,none⟩))) (go_keep)
  (first
   | (go_at_call 201;refine (zdG hd.good g (base+8*f+i) hg (by omega)).mono ?_;rintro e w3 ⟨v,rfl,hv,hG,hB⟩;have d1:=(h'.move hG ((Bt.of_below (z00 _ 1 _)).trans hB) (Wider.refl _ _) h'.col).1.c8)
   | (go_at_call 230;refine (z7A hd f i hf1 hi).mono ?_;rintro e w2 ⟨rfl,rfl⟩))
 have hv':=hv (by omega)
 subst hv'
 go_wp2
 go_ret2
 exact⟨rfl,(h'.turn hG ((Bt.of_below (z00 _ 1 _)).trans hB) (Wider.refl _ _) h'.col).after hb⟩
theorem z9X {w:World}{P:Nat→Prop}{p b W base n G:Nat}{cs:Nat→Int}{T:Int}{xs:List Int}{ws:Nat→Int}(h:Pl w P p b W base n G cs T xs ws) (g f i:Nat) (v:Int) (hg:g<G) (hf:zaZ ws base n f) (hi:i<8):
  Calls Tryz.prog 221 #[.pointer (some ⟨p,0,none⟩),.int .i64 g,.int .i64 f,.int .i64 i,.int .i64 v] w fun e w'=>e=.returned (.int .i64 0)∧Turn w P p b W base n G (upd cs g (wrap64 (cs g+1))) T xs (upd ws (base+8*f+i) v) w':=by
 obtain⟨Q,s,bc,pl,k,h⟩:=h
 have hf1:f<n:=by have:=hf.2.1;omega
 have hu:=z2M h (g:Int) f (by omega) hf
 have hw:=fun u=>z3S (i:Int) u true (by simp;omega)
 have h1:=h.fit
 have h2:=h.big
 go_enter Tryz.func221,Tryz.ntmps221
 go_wp2_with (first
  | (go_at_call 225;refine hu.mono ?_;rintro e w1 ⟨rfl,hb⟩;have h':=h.below hb;have c1:=h'.c8)
  | (go_at_call 229;refine (hw _).mono ?_;rintro e w1 ⟨rfl,rfl⟩))
 have hd:=h'.below (z00 w1 1 _)
 go_region_held3 (fun w'=>w'.cell? ⟨p,0,none⟩=some (.pointer (some ⟨b,0,none⟩))) (go_keep)
  (first
   | (go_at_call 232;refine (z7W hd.good g (base+8*f+i) v hg (by omega) (by omega)).mono ?_;rintro e w3 ⟨rfl,hG,hB⟩;have d1:=(h'.move hG ((Bt.of_below (z00 _ 1 _)).trans hB) (Wider.refl _ _) (z8a hf1 hi h'.col)).1.c8)
   | (go_at_call 230;refine (z7A hd f i hf1 hi).mono ?_;rintro e w2 ⟨rfl,rfl⟩))
 go_wp2
 go_ret
 exact⟨rfl,(h'.turn hG ((Bt.of_below (z00 _ 1 _)).trans hB) (Wider.refl _ _) (z8a hf1 hi h'.col)).after hb⟩
theorem Done.after {cs:Nat→Int}{w w1 w':World}{P:Nat→Prop}{s b W base G cap:Nat}{old:Nat→Int}{T:Int}{xs:List Int}(h:Done cs w1 P s b W base G cap old T xs w') (hb:Below w.heap.size w w1):Done cs w P s b W base G cap old T xs w':=by
 obtain⟨P',cs',h1,h2,h3,h4⟩:=h
 exact⟨P',cs',h1,(Bt.of_below hb).trans h2,fun j hj=>(h3 j hj).elim .inl (fun q=>.inr (Nat.le_trans hb.size q)),h4⟩
section
variable {w:World}{P:Nat→Prop}{s b W base G cap pl k:Nat}{old cs:Nat→Int}{T:Int}{xs:List Int}
theorem z29 {a:Addr}{v:Value}(h:w.cell? a=some v) (o:Obj):(w.alloc o).cell? a=some v:=by
 refine (z1U (Below.heap_alloc _ _ _ ?_)).trans h
 apply Classical.byContradiction
 intro q
 unfold World.cell? at h
 rw[Array.getElem?_eq_none (by omega)] at h
 cases h
theorem z6U {a:Addr}{v:Value}(h:w.cell? a=some v):a.block<w.heap.size:=by
 apply Classical.byContradiction
 intro q
 unfold World.cell? at h
 rw[Array.getElem?_eq_none (by omega)] at h
 cases h
theorem zfp (h:Good w P s ⟨b,W,base,old⟩ G cap cs calm T xs) (hT:T≤1000000000) (g f:Nat) (hg:g<G) (hf:f<1000) (hm:May cap calm xs f) (hl:w.cell? ⟨pl,0,none⟩=some (.pointer (some ⟨s,0,none⟩))):
  Calls Tryz.prog 227 #[.agg #[.slice (some ⟨pl,0,none⟩) 1 k],.int .i64 g,.int .i64 f] w fun e w'=>(∃ v,e=.returned v)∧Done cs w P s b W base G cap old (T+1) (((f:Int)+1)::xs) w':=by
 have hpf:=fun o=>z5w (h.alloc o) hT g (f:Int) hg hm
 have hl':=fun o=>z29 hl o
 have q1:(f:Int).tdiv 1000=0:=Int.tdiv_eq_zero_of_lt (by omega) (by omega)
 have q2:(f:Int).tmod 1000=f:=Int.tmod_eq_of_lt (by omega) (by omega)
 clear hm
 go_enter Tryz.func227,Tryz.ntmps227
 go_wp2_with (go_at_call 237;refine (hpf _).mono ?_;rintro e w1 ⟨rfl,hD⟩)
 go_end0
 exact⟨⟨_,rfl⟩,hD.after ((Below.refl _ _).alloc (Nat.le_refl _) _)⟩
theorem zbc {x:Int}(h:Good w P s ⟨b,W,base,old⟩ G cap cs calm T (x::xs)) (hT:T≤1000000000) (g:Nat) (hg:g<G) (hl:w.cell? ⟨pl,0,none⟩=some (.pointer (some ⟨s,0,none⟩))):
  Calls Tryz.prog 233 #[.agg #[.slice (some ⟨pl,0,none⟩) 1 k],.int .i64 g] w fun e w'=>e=.returned (.tuple #[.int .i64 (x-1),.bool true])∧Done cs w P s b W base G cap old (T+1) xs w':=by
 have hr:=h.range
 have hx:=hr.1 x (by simp)
 have hx2:x≤1000:=by have:=hr.2.1;omega
 have l0:=fun o=>z29 hl o
 clear hr
 go_enter Tryz.func233,Tryz.ntmps233
 go_wp2
 go_loopg [11] 1 (fun _ v11 wr=>v11=.int .i64 0∧Below w.heap.size w wr)
 case atStart=>exact⟨rfl,(Below.refl _ _).alloc (Nat.le_refl _) _⟩
 case round =>
  obtain⟨rfl,hb⟩:=hrel
  have hk:=z6L (h.below hb) hT true (by simp[hd];omega)
  have l1:=(z1U (a:=⟨pl,0,none⟩) (hb.block pl (z6U hl))).trans hl
  clear l0
  go_wp2_with (first
   | (go_at_call 240;refine hk.mono ?_;rintro e w1 ⟨rfl,hb1⟩)
   | (go_at_call 237;refine (z6C ((h.below hb).below hb1) hT g 0 hg).mono ?_;rintro e w2 ⟨rfl,hD⟩))
  go_ret2
  exact⟨rfl,(hD.after hb1).after hb⟩
end
theorem PlC.side {w':World}{w:World}{P Q:Nat→Prop}{p s bc pl k b W base n G:Nat}{cs:Nat→Int}{T:Int}{xs:List Int}{ws:Nat→Int}(h:PlC w P Q p s bc pl k b W base n G cs T xs ws) (hB:Bt Q w w'):(w'.cell? ⟨p,0,none⟩=some (.pointer (some ⟨b,0,none⟩))∧w'.cell? ⟨p,1,none⟩=some (.int .i64 base)∧w'.cell? ⟨p,2,none⟩=some (.pointer (some ⟨b,0,none⟩))∧w'.cell? ⟨p,3,none⟩=some (.func (.func 160) #[] #[.pointer (some ⟨bc,0,none⟩)])∧w'.cell? ⟨p,4,none⟩=some (.func (.func 161) #[] #[])∧w'.cell? ⟨p,5,none⟩=some (.int .i64 ((base:Int)+8*n))∧w'.cell? ⟨p,6,none⟩=some (.int .i64 n)∧w'.cell? ⟨p,7,none⟩=some (.slice (some ⟨pl,0,none⟩) 1 k)) ∧
  w'.cell? ⟨pl,0,none⟩=some (.pointer (some ⟨s,0,none⟩)) :=
 ⟨blk8 ((hB.block p (h.lt p h.foot.1) h.off.1).trans h.here),(z1U (hB.block pl (h.lt pl h.foot.2.2) h.off.2.2)).trans h.list⟩
theorem zbZ {ws:Nat→Int}{base n:Nat}{xs:List Int}{f:Nat}(hc:∀ f,f<n→0≤ws (base+8*n+f)∧ws (base+8*n+f)≤3∧(ws (base+8*n+f)=0↔(f:Int)+1∈xs)):
  ∀ m,m<n→0≤upd ws (base+8*n+f) 0 (base+8*n+m)∧upd ws (base+8*n+f) 0 (base+8*n+m)≤3∧(upd ws (base+8*n+f) 0 (base+8*n+m)=0↔(m:Int)+1∈((f:Int)+1)::xs):=by
 intro m hm
 by_cases e:m=f
 ·subst e
  rw[z1a]
  exact⟨by omega,by omega,fun _=>by simp,fun _=>rfl⟩
 ·rw[z09 _ _ (by omega)]
  refine⟨(hc m hm).1,(hc m hm).2.1,fun q=>List.mem_cons_of_mem _ ((hc m hm).2.2.1 q),fun q=>(hc m hm).2.2.2 ?_⟩
  rcases List.mem_cons.1 q with r|r
  ·omega
  ·exact r
theorem zbC {w:World}{P:Nat→Prop}{p b W base n G:Nat}{cs:Nat→Int}{T:Int}{xs:List Int}{ws:Nat→Int}(h:Pl w P p b W base n G cs T xs ws) (hT:T≤1000000000) (g f:Nat) (hg:g<G) (hf:zaZ ws base n f):
  Calls Tryz.prog 214 #[.pointer (some ⟨p,0,none⟩),.int .i64 g,.int .i64 f] w fun e w'=>e=.returned (.int .i64 0)∧∃ cs',Grew cs cs' 10∧Turn w P p b W base n G cs' (T+1) (((f:Int)+1)::xs) (upd ws (base+8*n+f) 0) w':=by
 obtain⟨Q,s,bc,pl,k,h⟩:=h
 have hf1:f<n:=by have:=hf.2.1;omega
 have hu:=z2M h (g:Int) f (by omega) hf
 have hcol:=zbZ (f:=f) h.col
 have hn2:=h.n2
 have hm:May n calm xs f:=⟨by omega,by omega,fun _=>by simp[Op.link];omega,fun q=>(show ws (base+8*n+f)≠0 by simpa using hf.2.2) ((h.col f hf1).2.2.2 q)⟩
 have Hm:Hid (May n calm xs f):=hm
 clear hm
 go_enter Tryz.func214,Tryz.ntmps214
 go_wp2_with (first
  | (go_at_call 225;refine hu.mono ?_;rintro e w1 ⟨rfl,hb⟩;have h':=h.below hb;have c1:=h'.c8)
  | (go_at_call 226;refine (zf2 h' g f _ hg hf1).mono ?_;rintro e w2 ⟨⟨ev,rfl⟩,hG,hB⟩;obtain⟨c2,l2⟩:=h'.side hB)
  | (go_at_call 227;refine (zfp hG hT g f hg (by omega) Hm.out l2).mono ?_;rintro e w3 ⟨⟨ew,rfl⟩,Q3,cs3,hG3,hB3,hW3,hgr⟩))
 go_ret
 exact⟨rfl,_,(((Grew.refl cs 0).tick g).trans hgr).mono (by omega),(h'.turn hG3 (hB.trans hB3) (fun j hj=>(hW3 j hj).elim .inl (fun q=>.inr (Nat.le_trans hB.size q))) hcol).after hb⟩
def zap (ws:Nat→Int) (a m:Nat):Nat→Int:=fun j=>if a≤j∧j<a+m then 0 else ws j
theorem z7x (ws:Nat→Int) (a:Nat):zap ws a 0=ws:=by funext j;unfold zap;rw[if_neg (by omega)]
theorem z7D (ws:Nat→Int) (a m:Nat):upd (zap ws a m) (a+m) 0=zap ws a (m+1):=by
 funext j
 unfold upd zap
 by_cases h1:j=a+m
 ·rw[if_pos h1,if_pos (by omega)]
 ·rw[if_neg h1]
  by_cases h2:a≤j∧j<a+m
  ·rw[if_pos h2,if_pos (by omega)]
  ·rw[if_neg h2,if_neg (by omega)]
theorem zdB (ws:Nat→Int) {a m j:Nat}(h1:a≤j) (h2:j<a+m):zap ws a m j=0:=by unfold zap;rw[if_pos ⟨h1,h2⟩]
theorem z4G (ws:Nat→Int) {a m j:Nat}(h:¬ (a≤j∧j<a+m)):zap ws a m j=ws j:=by unfold zap;rw[if_neg h]
theorem zao {ws:Nat→Int}{base n:Nat}{xs:List Int}{f:Nat}(hf:f<n) (hx:(((f:Int)+1)::xs).Nodup) (hc:∀ m,m<n→0≤ws (base+8*n+m)∧ws (base+8*n+m)≤3∧(ws (base+8*n+m)=0↔(m:Int)+1∈((f:Int)+1)::xs)):
  ∀ m,m<n→0≤upd (zap ws (base+8*f) 8) (base+8*n+f) 1 (base+8*n+m)∧upd (zap ws (base+8*f) 8) (base+8*n+f) 1 (base+8*n+m)≤3∧(upd (zap ws (base+8*f) 8) (base+8*n+f) 1 (base+8*n+m)=0↔(m:Int)+1∈xs):=by
 intro m hm
 by_cases e:m=f
 ·subst e
  rw[z1a]
  exact⟨by omega,by omega,fun q=>absurd q (by decide),fun q=>absurd q (List.nodup_cons.1 hx).1⟩
 ·rw[z09 _ _ (by omega),z4G _ (by omega)]
  refine⟨(hc m hm).1,(hc m hm).2.1,fun q=>?_,fun q=>(hc m hm).2.2.2 (List.mem_cons_of_mem _ q)⟩
  rcases List.mem_cons.1 ((hc m hm).2.2.1 q) with r|r
  ·omega
  ·exact r
theorem zcv {w:World}{p base:Nat}(f i:Nat) (hc:w.cell? ⟨p,1,none⟩=some (.int .i64 base)) (h1:base+8*f+i≤65536):
  Calls Tryz.prog 230 #[.pointer (some ⟨p,0,none⟩),.int .i64 f,.int .i64 i] w fun e w'=>e=.returned (.int .i64 ((base+8*f+i:Nat):Int))∧w'=w:=by
 go_enter Tryz.func230,Tryz.ntmps230
 go_wp2
 go_ret
 exact⟨by first|rfl|(simp;omega)|(congr 2;omega),rfl⟩
theorem zfY {w:World}{P:Nat→Prop}{s bc b W base n G:Nat}{cs:Nat→Int}{T:Int}{xs:List Int}{ws:Nat→Int}(h:Good w P s ⟨b,W,base+9*n,ws⟩ G n cs calm T xs) (h1:base+(14*n+64)≤W) (h2:W≤65536) (g f:Nat) (c:Int) (hg:g<G) (hf:f<n):
  Calls Tryz.prog 226 #[.agg #[.pointer (some ⟨b,0,none⟩),.func (.func 160) #[] #[.pointer (some ⟨bc,0,none⟩)],.func (.func 161) #[] #[],.int .i64 ((base:Int)+8*n),.int .i64 n],.int .i64 g,.int .i64 f,.int .i64 c] w fun e w'=>(∃ v,e=.returned v)∧Good w' P s ⟨b,W,base+9*n,upd ws (base+8*n+f) c⟩ G n (upd cs g (wrap64 (cs g+1))) calm T xs∧Bt P w w':=by
 have hp:=fun o=>z58 (bc:=bc) (h.alloc o) g (base+8*n+f) c hg (by omega) (by omega)
 simp only[Int.natCast_add,Int.natCast_mul] at hp
 go_enter Tryz.func226,Tryz.ntmps226
 go_wp2_with (go_at_call 236;refine (hp _).mono ?_;rintro e w1 ⟨rfl,hG,hB⟩)
 go_end0
 exact⟨⟨_,rfl⟩,hG,(Bt.of_below ((Below.refl _ _).alloc (Nat.le_refl _) _)).trans hB⟩
theorem zb1 {w:World}{P:Nat→Prop}{p b W base n G:Nat}{cs:Nat→Int}{T:Int}{xs:List Int}{ws:Nat→Int}{x:Int}(h:Pl w P p b W base n G cs T (x::xs) ws) (hT:T≤1000000000) (g:Nat) (hg:g<G):
  Calls Tryz.prog 222 #[.pointer (some ⟨p,0,none⟩),.int .i64 g] w fun e w'=>∃ f:Nat,x=(f:Int)+1∧f<n∧ws (base+8*n+f)=0∧e=.returned (.tuple #[.int .i64 f,.int .i64 0])∧∃ cs',Grew cs cs' 20∧Turn w P p b W base n G cs' (T+1) xs (upd (zap ws (base+8*f) 8) (base+8*n+f) 1) w':=by
 obtain⟨Q,s,bc,pl,k,h⟩:=h
 have hr:=h.good.range
 have hx:=hr.1 x (by simp)
 obtain⟨f,rfl⟩:∃ f:Nat,x=(f:Int)+1:=⟨(x-1).toNat,by omega⟩
 have hf:f<n:=by omega
 have hcol:=zao hf hr.2.2.2.1 h.col
 have h0:Hid (ws (base+8*n+f)=0):=(show _=_ from (h.col f hf).2.2.2 (by simp))
 have h1:=h.fit
 have h2:=h.big
 have hn:=phas h (g:Int) true (by simp;omega)
 have c0:=h.c8
 have ht:=zbc (k:=k) h.good hT g hg h.list
 rw[show (f:Int)+1-1=f by omega] at ht
 clear hr hx
 go_enter Tryz.func222,Tryz.ntmps222
 go_wp2_with (first
  | (go_at_call 218;refine hn.mono ?_;rintro e w1 ⟨rfl,rfl⟩)
  | (go_at_call 233;refine ht.mono ?_;rintro e w2 ⟨rfl,Q2,cs2,hG2,hB2,hW2,hg2⟩;obtain⟨c2,l2⟩:=h.side hB2))
 go_loopw [28] (fun v31 wr=>∃ (i:Nat) (cs':Nat→Int),i≤8∧v31=.int .i64 i∧Good wr Q2 s ⟨b,W,base+9*n,zap ws (base+8*f) i⟩ G n cs' calm (T+1) xs∧Bt Q2 w2 wr∧Grew cs cs' (5+i)) (fun v31 _=>8-(intOf v31).toNat)
 case atStart=>exact⟨0,_,by omega,rfl,by rw[z7x];exact hG2,Bt.refl _ _,hg2⟩
 case round =>
  obtain⟨i,cs',hi,rfl,hG,hB,hgr⟩:=hrel
  have hBr:=hB2.wide hB hW2
  obtain⟨c3,_⟩:=h.side hBr
  clear c0 c2 l2 hG2 ht hn
  by_cases hlt:i<8
  ·have hGd:=hG.below (z00 wr 1 _)
   have e1:(wr.drewN 1).cell? ⟨p,1,none⟩=some (.int .i64 base):=c3.2.1
   go_wp2
   go_region_held3 (fun w'=>w'.cell? ⟨p,0,none⟩=some (.pointer (some ⟨b,0,none⟩))) (go_keep)
    (first
     | (go_at_call 232;refine (z7W hGd g (base+8*f+i) 0 hg (by omega) (by omega)).mono ?_;rintro e w3 ⟨rfl,hG3,hB3⟩;have d1:=(h.side (hB2.wide (hB.trans ((Bt.of_below (z00 _ 1 _)).trans hB3)) hW2)).1)
     | (go_at_call 230;refine (zcv f i e1 (by omega)).mono ?_;rintro e w2 ⟨rfl,rfl⟩))
   rw[z7D] at hG3
   go_wp2
   go_roundw
   case rel=>exact⟨i+1,_,by omega,by go_num,hG3,hB.trans ((Bt.of_below (z00 _ 1 _)).trans hB3),hgr.tick g⟩
   case measure=>simp[intOf];omega
  ·obtain rfl:i=8:=by omega
   go_wp2_with (go_at_call 226;refine (zfY hG h1 h2 g f _ hg hf).mono ?_;rintro e w4 ⟨⟨ev,rfl⟩,hG4,hB4⟩)
   go_ret2
   exact⟨f,rfl,hf,h0.out,rfl,_,(hgr.tick g).mono (by omega),h.turn hG4 (hB2.wide (hB.trans hB4) hW2) hW2 hcol⟩
end Go.Proofs.YthkelaeemefnaaaGreat
namespace Go.Proofs.YthkelaeemefnaaaGreat
open Go.RowKit
theorem zfx:(Tryz.prog.info? 194).map (·.size)=some 5:=by kernel_rfl
theorem zag {u:World}{s ty:Nat}{a0 a1 a2 a3 a4:Value}(h:u.heap[s]?=some (.cells #[a0,a1,a2,a3,a4] ty (0,0))) (x0 x1 x2 x3 x4:Value):
  (((((u.setCell ⟨s,0,none⟩ x0).setCell ⟨s,1,none⟩ x1).setCell ⟨s,2,none⟩ x2).setCell ⟨s,3,none⟩ x3).setCell ⟨s,4,none⟩ x4).heap[s]?=some (.cells #[x0,x1,x2,x3,x4] ty (0,0)):=by
 have h0:(u.setCell ⟨s,0,none⟩ x0).heap[s]?=some (.cells #[x0,a1,a2,a3,a4] ty (0,0)):=z05 h 0 x0
 have h1:((u.setCell ⟨s,0,none⟩ x0).setCell ⟨s,1,none⟩ x1).heap[s]?=some (.cells #[x0,x1,a2,a3,a4] ty (0,0)):=z05 h0 1 x1
 have h2:(((u.setCell ⟨s,0,none⟩ x0).setCell ⟨s,1,none⟩ x1).setCell ⟨s,2,none⟩ x2).heap[s]?=some (.cells #[x0,x1,x2,a3,a4] ty (0,0)):=z05 h1 2 x2
 have h3:((((u.setCell ⟨s,0,none⟩ x0).setCell ⟨s,1,none⟩ x1).setCell ⟨s,2,none⟩ x2).setCell ⟨s,3,none⟩ x3).heap[s]?=some (.cells #[x0,x1,x2,x3,a4] ty (0,0)):=z05 h2 3 x3
 exact z05 h3 4 x4
theorem z9n {u:World}{s j:Nat}(hj:j≠s) (x0 x1 x2 x3 x4:Value):
  (((((u.setCell ⟨s,0,none⟩ x0).setCell ⟨s,1,none⟩ x1).setCell ⟨s,2,none⟩ x2).setCell ⟨s,3,none⟩ x3).setCell ⟨s,4,none⟩ x4).heap[j]?=u.heap[j]?:=by
 rw[z03 _ _ hj,z03 _ _ hj,z03 _ _ hj,z03 _ _ hj,z03 _ _ hj]
theorem z6P {w:World}{b bw bs W G:Nat}{ws cs:Nat→Int}(h:Ar w b bw bs W G ws cs) (x y:Int) (tb n:Nat) (hx:x=tb) (hy:y=n) (h1:tb+n≤W) (hW:W≤65536):
  Calls Tryz.prog 150 #[.pointer (some ⟨b,0,none⟩),.int .i64 x,.int .i64 y,.int .i64 3] w fun e w'=>∃ bc,e=.returned (.agg #[.pointer (some ⟨b,0,none⟩),.func (.func 160) #[] #[.pointer (some ⟨bc,0,none⟩)],.func (.func 161) #[] #[],.int .i64 tb,.int .i64 n])∧w.heap.size≤bc∧w'.heap[bc]?=some (.cells #[.int .i64 3] 196 (0,0))∧Ar w' b bw bs W G (zap ws tb n) cs∧But bw bs w w':=by
 subst hx hy
 have hl:=h.lts
 go_enter Tryz.func150,Tryz.ntmps150
 go_wp2_with (go_at_call 162;refine (zbw b w.heap.size _).mono ?_;rintro e w1 ⟨rfl,hb1⟩)
 have s1:=hb1.size
 simp only[Go.Deep.nblk_alloc] at s1
 have z0:=ov hb1 (z01 (heap_alloc_new w (.cells #[.int .i64 3] 196)) _)
 have z1:=ov hb1 (heap_alloc_new (w.alloc (.cells #[.int .i64 3] 196)) (.cells #[.pointer none,.nilFunc,.nilFunc,.int .i64 0,.int .i64 0] 194))
 rw[Go.Deep.nblk_alloc] at z1
 have hA1:=((h.alloc _).alloc _).below hb1
 have hB1:=(((But.refl bw bs w).alloc _).alloc _).trans (But.of_below hb1)
 clear hb1
 go_loopw [22] (fun v22 wr=>∃ i:Nat,i≤n∧v22=.int .i64 i∧Ar wr b bw bs W G (zap ws tb i) cs∧But bw bs w wr∧wr.heap[w.heap.size]?=some (.cells #[.int .i64 3] 196 (0,0)) ∧
  wr.heap[w.heap.size+1]?=some (.cells #[.pointer none,.nilFunc,.nilFunc,.int .i64 0,.int .i64 0] 194 (0,0)) ∧
  wr.heap[w1.heap.size]?=some (.cells #[.pointer (some ⟨b,0,none⟩),.func (.func 160) #[] #[.pointer (some ⟨w.heap.size,0,none⟩)],.func (.func 161) #[] #[],.int .i64 tb,.int .i64 n] 194 (0,0))) (fun v22 _=>n-(intOf v22).toNat)
 case atStart=>exact⟨0,by omega,rfl,by rw[z7x];exact hA1.alloc _,hB1.alloc _,z01 z0 _,z01 z1 _,heap_alloc_new _ _⟩
 case round =>
  obtain⟨i,hi,rfl,hA,hB,y0,y1,y2⟩:=hrel
  clear hA1 hB1 z0 z1
  have c2:=blk5 y2
  by_cases hlt:i<n
  ·have hpk:=zcR (bc:=w.heap.size) hA (tb+i) 0 (by omega)
   rw[z7D] at hpk
   simp only[Int.natCast_add] at hpk
   have hlt':(i:Int)<n:=by omega
   go_wp2_with (go_at_call 163;refine hpk.mono ?_;rintro e w2 ⟨rfl,hA2,hB2⟩)
   go_roundw
   case rel=>exact⟨i+1,by omega,by go_num,hA2,hB.trans hB2,(hB2.block _ (z02 y0) (by omega) (by omega)).trans y0,(hB2.block _ (z02 y1) (by omega) (by omega)).trans y1,(hB2.block _ (z02 y2) (by omega) (by omega)).trans y2⟩
   case measure=>simp[intOf];omega
  ·obtain rfl:i=n:=by omega
   have c1:=blk5 y1
   have f1:=frz y1
   go_wp2
   refine bodyPost_ret (results_cell_row rfl _ _ (w.heap.size+1) 194 _ (0,0) _ rfl (zag y1 _ _ _ _ _) Tryz.underlying194 rfl zfx) rfl ⟨w.heap.size,rfl,Nat.le_refl _,(z9n (by omega) _ _ _ _ _).trans y0,?_,?_⟩
   ·exact h.fresh (h.fresh (h.fresh (h.fresh (h.fresh hA _ 0 _ (by omega)) _ 1 _ (by omega)) _ 2 _ (by omega)) _ 3 _ (by omega)) _ 4 _ (by omega)
   ·exact ((((hB.fresh _ 0 _ (by omega)).fresh _ 1 _ (by omega)).fresh _ 2 _ (by omega)).fresh _ 3 _ (by omega)).fresh _ 4 _ (by omega)
theorem zfO:(Tryz.prog.info? 199).map (·.size)=some 1:=by kernel_rfl
theorem zfJ:(Tryz.prog.info? 222).map (fun i=>(i.zero,i.size,i.bytes))=some (some (.pointer none),1,8):=by kernel_rfl
theorem z9U (W:World) (s:Nat):∃ pl k w',(Builtin.append_ #[197,197] 197 #[.slice none 0 0,.slice (some ⟨W.heap.size,0,none⟩) 1 1]).run Tryz.prog (W.alloc (.cells #[.pointer (some ⟨s,0,none⟩)] 222))=.ok (.slice (some ⟨pl,0,none⟩) 1 k) w' ∧
  w'.cell? ⟨pl,0,none⟩=some (.pointer (some ⟨s,0,none⟩))∧W.heap.size≤pl∧Below W.heap.size W w':=by
 obtain⟨i,hi,hz,hs,hby⟩:=info_parts zfJ
 obtain⟨v',w',hr,ho,hg,_⟩:=run_append_own_wide (P:=Tryz.prog) (W.alloc (.cells #[.pointer (some ⟨s,0,none⟩)] 222)) W.heap.size 197 197 222 i _ 1 8 Tryz.underlying197 hi hz hs hby rfl (by decide) (.slice none 0 0) 0 [] (World.ownsRow_nil _ _ _ _) ⟨W.heap.size,0,none⟩ 1 1 [.pointer (some ⟨s,0,none⟩)] rfl (cell_one_new W (.pointer (some ⟨s,0,none⟩)) 222) (by intro u hu;simp at hu;subst hu;rfl) (by unfold maxLen;omega) (by omega) (by simp)
 rcases ho.2 with ⟨rfl,q⟩|⟨g,cap,cur,rfl,hb,hg',hc,hm,hs',ht⟩
 ·simp at q
 ·refine⟨g,cap,w',hr,?_,hb,?_⟩
  ·simp at ht
   have:cur[0]?=some (.pointer (some ⟨s,0,none⟩)):=by
    have e:=congrArg (fun l:List Value=>l[0]?) ht
    simpa using e
   simp[World.cell?,hg',this]
  ·exact ((Below.refl _ _).alloc (Nat.le_refl _) _).trans ⟨hg.os,hg.tape,hg.output,hg.size,fun j hj=>hg.block j (by simp;omega) (by simp[Value.ownBlock])⟩
theorem z6o {P:Program}{ops:Array Oper}{rest:List Oper}{o:Oper}{a:Act}{Q:Exit→Act→World→Prop}{w w':World}{v vx v':Value}(s x:Operand) (hr:(Builtin.append_ #[197,197] 197 #[v,vx]).run P w=.ok v' w')
  (hgd:o.guard=none) (ho:o.op=.call { callee:=.builtin .append,args:=#[s,x],argTypes:=#[197,197] }) (hty:o.type=197) (hs:a.eval s=v) (hx:a.eval x=vx) (h:wpList P ops Q rest (a.put o.dst v') w'):wpList P ops Q (o::rest) a w:=by
 refine wpList_plain hgd fun K hK=>?_
 unfold Oper.wp execOp
 simp only[ho,hty,resolve,invoke,builtin,Sem.run_bind,Sem.run_pure,Result.andThen_ok,List.map_toArray,List.map_cons,List.map_nil,hs,hx,hr]
 exact hK _ _ h
def Listed (w:World) (b bw bs W G tb n:Nat) (ws cs:Nat→Int) (Q:Nat→Prop) (s pl:Nat) (w':World):Prop :=
 Good w' Q s ⟨b,W,tb,ws⟩ G n cs calm 0 (up n 1)∧Bt (fun j=>j=bw∨j=bs) w w'∧(∀ j,Q j→j=b∨j=bw∨j=bs∨w.heap.size+2≤j)∧w'.cell? ⟨pl,0,none⟩=some (.pointer (some ⟨s,0,none⟩))∧w.heap.size+2≤pl∧¬ Q pl
theorem Listed.put {w w':World}{b bw bs W G tb n:Nat}{ws cs:Nat→Int}{Q:Nat→Prop}{s pl:Nat}(h:Listed w b bw bs W G tb n ws cs Q s pl w') (hb:b<w.heap.size∧bw<w.heap.size∧bs<w.heap.size) (r i:Nat) (v:Value) (h1:w.heap.size≤r) (h2:r<w.heap.size+2):Listed w b bw bs W G tb n ws cs Q s pl (w'.setCell ⟨r,i,none⟩ v):=by
 obtain⟨hG,hB,hQ,hc,hl,hq⟩:=h
 exact⟨hG.put (fun q=>by rcases hQ r q with e|e|e|e<;>omega) i v,hB.set r i v (.inr h1),hQ,(z1U (a:=⟨pl,0,none⟩) (z03 _ _ (by show pl≠r;omega))).trans hc,hl,hq⟩
theorem z8x {w:World}{b bw bs W G:Nat}{ws cs:Nat→Int}(h:Ar w b bw bs W G ws cs) (x y:Int) (tb n:Nat) (hx:x=tb) (hy:y=n) (n1:1≤n) (n2:n≤1000) (h1:tb+(2*n+8)≤W) (hW:W≤65536) (hG:G≤12):
  Calls Tryz.prog 151 #[.pointer (some ⟨b,0,none⟩),.int .i64 x,.int .i64 y] w fun e w'=>∃ Q s pl k,e=.returned (.agg #[.slice (some ⟨pl,0,none⟩) 1 k])∧Listed w b bw bs W G tb n ws cs Q s pl w':=by
 subst hx hy
 have hl:=h.lts
 have hb:=h.lt
 go_enter Tryz.func151,Tryz.ntmps151
 go_wp2
 go_loopw [1,2] (fun v1 v2 wr=>wr.heap[w.heap.size]?=some (.cells #[.slice none 0 0] 199 (0,0))∧((v1=.int .i64 tb∧v2=.int .i64 n∧Below w.heap.size w wr∧w.heap.size+2≤wr.heap.size∧wr.heap[w.heap.size+1]?=some (.cells #[.slice none 0 0] 199 (0,0))) ∨
  (v2=.int .i64 0∧∃ Q s pl k,wr.heap[w.heap.size+1]?=some (.cells #[.slice (some ⟨pl,0,none⟩) 1 k] 199 (0,0))∧Listed w b bw bs W G tb n ws cs Q s pl wr))) (fun _ v2 _=>(intOf v2).toNat)
 case atStart =>
  have z1:=heap_alloc_new (w.alloc (.cells #[.slice none 0 0] 199)) (.cells #[.slice none 0 0] 199)
  rw[Go.Deep.nblk_alloc] at z1
  exact⟨z01 (heap_alloc_new w _) _,.inl ⟨rfl,rfl,z3I _ _ _,by simp,z1⟩⟩
 case round =>
  obtain⟨y0,⟨rfl,rfl,hb1,hs1,y1⟩|⟨rfl,Q,s,pl,k,y1,hL⟩⟩:=hrel
  ·have hf:=z8H (h.below hb1) tb n n1 n2 h1 hG hW
   have c1:=z08 y1
   have hmin:min (n:Int) 1000=n:=by omega
   have n1':(0:Int)<n:=by omega
   go_wp2_with (first|(at_builtin;refine z6o _ _ hrun rfl rfl rfl rfl rfl ?_;clear hrun)|(go_at_call 165;refine (z4z _ _ (by omega) (by omega)).mono ?_;rintro e w4 ⟨rfl,rfl⟩)|(go_at_call 164;refine hf.mono ?_;rintro e w2 ⟨s,Q,rfl,hG2,hB2,hQ2⟩;obtain⟨pl,k,w3,hrun,hc3,hl3,hb3⟩:=z9U w2 s;have z1:=(hB2.block _ (z02 y1) (by omega)).trans y1;have z1':=z01 z1 (.cells #[.pointer (some ⟨s,0,none⟩)] 222);have z2:=ov hb3 z1;have e1:=z08 z1;have e2:=z08 z2;have e3:=frz z2))
   go_roundw
   case rel =>
    have s2:=hB2.size
    have y0':=ov hb3 ((hB2.block _ (z02 y0) (by omega)).trans y0)
    have hLs:Listed w b bw bs W G tb n ws cs Q s pl w3:=⟨hG2.below hb3,((Bt.of_below hb1).trans hB2).trans (Bt.of_below hb3),fun j hj=>by rcases hQ2 j hj with e|e|e|e;exact .inl e;exact .inr (.inl e);exact .inr (.inr (.inl e));exact .inr (.inr (.inr (by omega))),hc3,by omega,fun q=>by have:=hG2.lt pl q;omega⟩
    exact⟨(z03 _ _ (by show w.heap.size≠w.heap.size+1;omega)).trans y0',.inr ⟨by go_num,Q,s,pl,k,z05 z2 0 _,hLs.put ⟨hb,hl.1,hl.2⟩ _ 0 _ (by omega) (by omega)⟩⟩
   case measure=>simp[intOf];omega
  ·have c0:=z08 y0
   have c1:=z08 y1
   have f0:=frz y0
   go_wp2
   exact bodyPost_ret (results_cell_row rfl _ _ w.heap.size 199 _ (0,0) _ rfl (z05 y0 0 _) Tryz.underlying199 rfl zfO) rfl ⟨Q,s,pl,k,rfl,hL.put ⟨hb,hl.1,hl.2⟩ _ 0 _ (by omega) (by omega)⟩
end Go.Proofs.YthkelaeemefnaaaGreat
