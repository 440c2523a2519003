import Derived.Test.YthkelaeemefnaaaGreatMO1qz
set_option maxRecDepth 20000
set_option maxHeartbeats 1000000
namespace Go.Proofs.YthkelaeemefnaaaGreat
open Go.RowKit
structure Mp (D:DataW Unit) (O:List Ob):Prop where
 has:∀ k:Int,Maps.has D (.int .i64 k)=true↔∃ o∈O,o.ref=k
 at_:∀ o∈O,D.atKey (.int .i64 o.ref) (.lit (.int .i64 0))=.lit (.int .i64 o.n)
theorem Mp.none:Mp (.map []) []:=⟨fun k=>⟨fun h=>by simp[Maps.has] at h,fun h=>by simp at h⟩,fun o h=>by simp at h⟩
theorem z7Q {a b:Int}(h:a≠b):Lit.int .i64 a≠Lit.int .i64 b:=fun e=>h (by simpa using e)
theorem Mp.put {D:DataW Unit}{O:List Ob}(h:Mp D O) (hm:Maps.IsMap D) {o:Ob}(hne:∀ z∈O,z.ref≠o.ref):Mp (D.put (.int .i64 o.ref) (.lit (.int .i64 o.n))) (O++[o]):=by
 refine⟨fun k=>?_,fun z hz=>?_⟩
 ·by_cases e:k=o.ref
  ·subst e
   rw[Maps.has_put_same hm (k:=.int .i64 o.ref) trivial]
   exact⟨fun _=>⟨o,by simp,rfl⟩,fun _=>rfl⟩
  ·rw[Maps.has_put_other (z7Q e),h.has k]
   constructor
   ·rintro⟨z,hz,e2⟩
    exact⟨z,by simp[hz],e2⟩
   ·rintro⟨z,hz,e2⟩
    rcases List.mem_append.1 hz with hz|hz
    ·exact⟨z,hz,e2⟩
    ·rw[List.mem_singleton.1 hz] at e2
     exact absurd e2.symm e
 ·rcases List.mem_append.1 hz with hz|hz
  ·rw[Maps.atKey_put_other (z7Q (hne z hz))]
   exact h.at_ z hz
  ·rw[List.mem_singleton.1 hz,Maps.atKey_put_same hm (k:=.int .i64 o.ref) trivial]
theorem Mp.del {D:DataW Unit}{O:List Ob}(h:Mp D O) {a:Nat}{o:Ob}(ha:O[a]?=some o) (hne:∀ b z,O[b]?=some z→b≠a→z.ref≠o.ref):Mp (D.del (.int .i64 o.ref)) (O.eraseIdx a):=by
 refine⟨fun k=>?_,fun z hz=>?_⟩
 ·by_cases e:k=o.ref
  ·subst e
   rw[Maps.has_del_same]
   refine⟨fun q=>by simp at q,?_⟩
   rintro⟨z,hz,e2⟩
   obtain⟨i,hi,e3⟩:=List.mem_eraseIdx_iff_getElem?.1 hz
   exact absurd e2 (hne i z e3 hi)
  ·rw[Maps.has_del_other (z7Q e),h.has k]
   constructor
   ·rintro⟨z,hz,e2⟩
    obtain⟨i,li,e3⟩:=List.getElem_of_mem hz
    have e3':O[i]?=some z:=by rw[List.getElem?_eq_getElem li,e3]
    refine⟨z,List.mem_eraseIdx_iff_getElem?.2 ⟨i,?_,e3'⟩,e2⟩
    rintro rfl
    rw[ha] at e3'
    obtain rfl:o=z:=Option.some.inj e3'
    exact e e2.symm
   ·rintro⟨z,hz,e2⟩
    obtain⟨i,_,e3⟩:=List.mem_eraseIdx_iff_getElem?.1 hz
    exact⟨z,List.mem_of_getElem? e3,e2⟩
 ·obtain⟨i,hi,e3⟩:=List.mem_eraseIdx_iff_getElem?.1 hz
  rw[Maps.atKey_del_other (z7Q (hne i z e3 hi))]
  exact h.at_ z (List.mem_of_getElem? e3)
structure Sto (w:World) (P:Nat→Prop) (so mb p b W base N G:Nat) (cs:Nat→Int) (T:Int) (xs:List Int) (ws:Nat→Int) (nn:Nat) (D:DataW Unit) (O:List Ob):Prop where
 raw:Raw w P so mb p b W base N G cs T xs ws nn D
 inv:OInv ws base N xs.length O
 mp:Mp D O
def Tks (cs cs':Nat→Int) (g d:Nat):Prop:=(∀ j,j≠g→cs' j=cs j)∧(0≤cs g→cs g+d≤1000000000→cs' g=cs g+d)
theorem Tks.zero (cs:Nat→Int) (g:Nat):Tks cs cs g 0:=⟨fun _ _=>rfl,fun _ _=>by omega⟩
theorem Tks.tick {cs cs':Nat→Int}{g d:Nat}(h:Tks cs cs' g d):Tks cs (upd cs' g (wrap64 (cs' g+1))) g (d+1):=by
 refine⟨fun j hj=>by rw[z09 _ _ hj];exact h.1 j hj,fun h0 h1=>?_⟩
 have:=h.2 h0 (by omega)
 rw[z1a,IntWalk.wrap64_in _ (by omega)]
 omega
theorem Tks.grew {cs cs':Nat→Int}{g d:Nat}(h:Tks cs cs' g d):Grew cs cs' d:=fun K h0 h1 hf j=>by
 have h2:=hf j
 by_cases e:j=g
 ·subst e
  have:=h.2 h2.1 (by omega)
  omega
 ·rw[h.1 j e];omega
section
variable {w:World}{P:Nat→Prop}{so mb p b W base N G:Nat}{cs:Nat→Int}{T:Int}{xs:List Int}{ws:Nat→Int}{nn:Nat}{D:DataW Unit}{O:List Ob}
theorem Raw.fit (h:Raw w P so mb p b W base N G cs T xs ws nn D):N≤1000:=by
 obtain⟨P0,h1,_⟩:=h.pl
 exact h1.facts.2.2.2.1
theorem Sto.below {w':World}(h:Sto w P so mb p b W base N G cs T xs ws nn D O) (hb:Below w.heap.size w w'):Sto w' P so mb p b W base N G cs T xs ws nn D O:=⟨h.raw.below hb,h.inv,h.mp⟩
theorem Sto.wf (h:Sto w P so mb p b W base N G cs T xs ws nn D O) {o:Ob}(ho:o∈O):(Lit.int .i64 o.ref).wf=true∧1≤o.ref∧o.c 0<1000:=by
 have h1:=(h.inv.used o ho 0 (z1k _)).1
 have h2:=h.raw.fit
 exact⟨WalkArith.wf_i64 (by unfold Ob.ref;omega),by unfold Ob.ref;omega,by omega⟩
theorem Sto.yes (h:Sto w P so mb p b W base N G cs T xs ws nn D O) {o:Ob}(ho:o∈O):Maps.has D (.int .i64 o.ref)=true:=(h.mp.has _).2 ⟨o,ho,rfl⟩
theorem Sto.no (h:Sto w P so mb p b W base N G cs T xs ws nn D O) {ref:Int}(hn:∀ o∈O,o.ref≠ref):Maps.has D (.int .i64 ref)=false:=by
 cases hh:Maps.has D (.int .i64 ref) with
 | false=>rfl
 | true =>
  obtain⟨o,ho,e⟩:=(h.mp.has _).1 hh
  exact absurd e (hn o ho)
theorem zdZ (h:Sto w P so mb p b W base N G cs T xs ws nn D O) (g n:Nat) (hg:g<G) (hn:n≤64) (hT:T≤900000) (hf:1+(n+5)/6≤xs.length) (hnn:nn≤1000000):
  Calls Tryz.prog 209 #[.pointer (some ⟨so,0,none⟩),.int .i64 g,.int .i64 n] w fun e w'=>∃ (c:Nat→Nat) (xs':List Int) (cs' ws':Nat→Int) (D':DataW Unit) (P':Nat→Prop),e=.returned (.tuple #[.int .i64 ((c 0:Int)+1),.int .i64 0])∧Chn base N ws ws' (frg n) c∧xs'.length+frg n=xs.length∧Grew cs cs' 300 ∧
   Sto w' P' so mb p b W base N G cs' (T+frg n) xs' ws' (nn+1) D' (O++[⟨n,c⟩])∧Bt P w w'∧Wider P P' w:=by
 have cc:=h.raw.cells
 obtain⟨P0,h1,_⟩:=h.raw.pl
 have ha:=z2X h1 (g:Int) true (by simp;omega)
 have hd:=h.raw.below (z00 w 1 _)
 obtain⟨P1,h2,_⟩:=hd.pl
 have hF:=z8m h2 (by omega) (1+(n+5)/6) (by omega) (by omega) true (by simpa using hf)
 have n2:decide ((n:Int)<0)=false:=by simp
 have n3:decide (64<(n:Int))=false:=by simp;omega
 have f1:=z1k n
 have f9:=z13 hn
 have fl:=zf0 n
 have Hl:Hid (frg n≤xs.length):=(show _≤_ by omega)
 have hfr:=z1n n (by omega)
 have hfit:=h.raw.fit
 have HS:Hid (OInv ws base N xs.length O∧Mp D O∧Maps.IsMap D):=⟨h.inv,h.mp,h.raw.map.isMap⟩
 have Hn:Hid (n≤64):=hn
 obtain⟨F,hFr⟩:∃ F,F=frg n:=⟨_,rfl⟩
 have HF:Hid (F=frg n):=hFr
 rw[← hFr] at hfr f1 f9 Hl
 clear h h1 h2 hf fl hFr
 go_enter Tryz.func209,Tryz.ntmps209
 go_wp2_with (go_at_call 218;refine ha.mono ?_;rintro e w9 ⟨rfl,hw9⟩;replace hw9:=hw9.symm;subst hw9)
 go_region_held3 (fun w'=>w'.cell? ⟨so,0,none⟩=some (.pointer (some ⟨p,0,none⟩))) (go_keep) (first
  | (go_at_call 219;refine hF.mono ?_;rintro e w2 ⟨rfl,hb2⟩;have hR2:=hd.below hb2;have cc2:=hR2.cells)
  | (go_at_call 149;refine (z1R n (by omega) _).mono ?_;rintro e w9 ⟨rfl,rfl⟩))
 have hb02:Below w.heap.size w w2:=(z00 w 1 _).trans (hb2.mono (Nat.le_refl _))
 have hch:=zbx hR2 g F hg f1 f9 Hl.out hT
 clear hb2 hd hF ha
 go_wp2_with (first
  | (go_at_call 159;refine (hfr _).mono ?_;rintro e w9 ⟨rfl,hw9⟩;replace hw9:=hw9.symm;subst hw9)
  | (go_at_call 211;refine hch.mono ?_;rintro e w3 ⟨c,rfl,xs3,cs3,ws3,hC3,hl3,hg3,P3,hR3,hB3,hW3⟩;have cc3:=hR3.cells;have hc0:c 0<N:=hC3.lt 0 f1;have H3:Hid (Chn base N ws ws3 F c∧xs3.length+F=xs.length∧Grew cs cs3 (30*F)∧Bt P w2 w3∧Wider P P3 w2):=⟨hC3,hl3,hg3,hB3,hW3⟩;clear hC3 hl3 hg3 hB3 hW3 hch)
  | (go_at_call 220;refine (z6v (c 0) (by omega) _).mono ?_;rintro e w9 ⟨rfl,hw9⟩;replace hw9:=hw9.symm;subst hw9)
  | (at_mapUpdate;refine wpList_mapUpdate_own _ rfl _ _ _ 203 rfl 3 3 zan Tryz.underlying203 _ mb nn D rfl hR3.map (by unfold maxLen;omega) _ _ _ rfl rfl (Maps.keyOf_int_mk Tryz.underlying3 (WalkArith.wf_i64 (by omega))) _ [] (plainElem_int Tryz.underlying3 (WalkArith.wf_i64 (by omega))) ?_;intro w4 hm4 hg4))
 go_ret2
 obtain⟨k1,k2,k3,k4,k5⟩:=H3.out
 obtain⟨s1,s2,s3⟩:=HS.out
 rw[HF.out] at k1 k2 k3 hR3
 obtain⟨P4,hR4,hB4,hW4⟩:=RawT.after hb02 (RawT.trans k4 k5 (hR3.remap hm4 hg4))
 refine⟨c,xs3,cs3,ws3,_,P4,rfl,k1,k2,k3.mono (by have:=z13 Hn.out;omega),⟨hR4,?_,?_⟩,hB4,hW4⟩
 ·have h6:=s1.make Hn.out k1 (by omega)
  rw[show xs.length-frg n=xs3.length by omega] at h6
  exact h6
 ·exact s2.put s3 (o:=⟨n,c⟩) fun z hz=>s1.make_ref k1 hz
end
end Go.Proofs.YthkelaeemefnaaaGreat
namespace Go.Proofs.YthkelaeemefnaaaGreat
open Go.RowKit
section
variable {w:World}{P:Nat→Prop}{so mb p b W base N G:Nat}{cs:Nat→Int}{T:Int}{xs:List Int}{ws:Nat→Int}{nn:Nat}{D:DataW Unit}{O:List Ob}
theorem Sto.access (h:Sto w P so mb p b W base N G cs T xs ws nn D O) {o:Ob}(ho:o∈O) (g:Nat) (hg:g<G):
  Calls Tryz.prog 212 #[.pointer (some ⟨so,0,none⟩),.int .i64 g,.int .i64 o.ref] w fun e w'=>e=.returned (.tuple #[.int .i64 o.n,.int .i64 0])∧w'=w :=
 z8h h.raw g o.ref (by omega) (h.wf ho).1 o.n (h.mp.at_ o ho) (h.yes ho)
theorem zat (h:Sto w P so mb p b W base N G cs T xs ws nn D O) {o:Ob}(ho:o∈O) (g i:Nat) (hg:g<G) (hi:i<o.n):
  Calls Tryz.prog 215 #[.pointer (some ⟨so,0,none⟩),.int .i64 g,.int .i64 o.ref,.int .i64 i] w fun e w'=>e=.returned (.tuple #[.int .i64 (o.c (hop i o.n):Nat),.int .i64 (wrd i o.n:Nat),.int .i64 0]) ∧
   ∃ cs',Tks cs cs' g (hop i o.n)∧RawT w P so mb p b W base N G cs' T xs ws nn D w':=by
 have ha:=h.access ho g hg
 have hs:=h.inv.size o ho
 have hp:=z8n i o.n hi hs
 have hc0:=(h.wf ho).2.2
 have hf:∀ u,Calls Tryz.prog 224 #[.int .i64 o.ref] u fun e w'=>e=.returned (.int .i64 (o.c 0:Nat))∧w'=u:=fun u=>z44 (o.c 0) (by omega) u
 have Hl:Hid (∀ k,k<hop i o.n→ws (base+8*o.c k+0)=(o.c (k+1):Nat)):=fun k hk=>h.inv.link o ho k (by have:=z0T i o.n;omega)
 have Hu:Hid (∀ k,k<hop i o.n→o.c k<N∧ws (base+8*N+o.c k)≠0):=fun k hk=>h.inv.used o ho k (by have:=z0T i o.n;omega)
 have HR:Hid (Raw w P so mb p b W base N G cs T xs ws nn D):=h.raw
 have hh9:hop i o.n≤9:=by have:=z0T i o.n;have:=z13 hs;omega
 have i1:decide ((i:Int)<0)=false:=by simp
 have i2:decide (o.n≤i)=false:=by simp;omega
 generalize o.ref=ref at ha hf ⊢
 generalize hop i o.n=H at hp Hl Hu hh9 ⊢
 generalize wrd i o.n=Z at hp ⊢
 clear h hi
 go_enter Tryz.func215,Tryz.ntmps215
 go_wp2_with (first
  | (go_at_call 212;refine ha.mono ?_;rintro e w9 ⟨rfl,hw9⟩;replace hw9:=hw9.symm;subst hw9)
  | (go_at_call 228;refine (hp _).mono ?_;rintro e w9 ⟨rfl,hw9⟩;replace hw9:=hw9.symm;subst hw9)
  | (go_at_call 224;refine (hf _).mono ?_;rintro e w9 ⟨rfl,hw9⟩;replace hw9:=hw9.symm;subst hw9))
 clear ha hp hf
 go_loopg [12,15,44] (H+1) (fun kx s12 s15 s44 wr=>∃ (j:Nat) (cs':Nat→Int),s44=.int .i64 j∧s15=.int .i64 (o.c j:Nat)∧s12=.int .i64 0∧j≤H∧H-j≤kx∧Tks cs cs' g j∧RawT w P so mb p b W base N G cs' T xs ws nn D wr)
 case atStart=>exact⟨0,cs,rfl,rfl,rfl,by omega,by omega,Tks.zero _ _,RawT.refl HR.out⟩
 case round =>
  obtain⟨j,cs',rfl,rfl,rfl,hj,hk,htk,P',hR,hB,hW⟩:=hrel
  by_cases hlt:j<H
  ·have hlt':(j:Int)<(H:Int):=by omega
   have cc:=hR.cells
   have hL:=hR.load g (o.c j) 0 hg (Hu.out j hlt).1 (Hu.out j hlt).2 (by omega)
   rw[Hl.out j hlt] at hL
   have HB:Hid (Tks cs cs' g j∧Bt P w wr∧Wider P P' w):=⟨htk,hB,hW⟩
   clear htk hB hW hR
   go_wp2_with (go_at_call 216;refine hL.mono ?_;rintro e w2 ⟨rfl,hR2⟩)
   go_roundg (H-(j+1))
   case measure=>omega
   case rel=>exact⟨j+1,_,by go_num,rfl,rfl,by omega,by omega,HB.out.1.tick,RawT.trans HB.out.2.1 HB.out.2.2 hR2⟩
  ·obtain rfl:j=H:=by omega
   have hlt':¬ (j:Int)<(j:Int):=by omega
   go_wp2
   refine bodyPost_ret (results_tmp3 rfl _ _ _) rfl ?_
   exact⟨rfl,cs',htk,P',hR,hB,hW⟩
theorem zcX (h:Sto w P so mb p b W base N G cs T xs ws nn D O) {o:Ob}(ho:o∈O) (g i:Nat) (hg:g<G) (hi:i<o.n):
  Calls Tryz.prog 208 #[.pointer (some ⟨so,0,none⟩),.int .i64 g,.int .i64 o.ref,.int .i64 i] w fun e w'=>e=.returned (.tuple #[.int .i64 (ws (o.ad base i)),.int .i64 0]) ∧
   ∃ cs' P',Tks cs cs' g (hop i o.n+1)∧Sto w' P' so mb p b W base N G cs' T xs ws nn D O∧Bt P w w'∧Wider P P' w:=by
 have ha:=zat h ho g i hg hi
 have hu:=h.inv.used o ho _ (z0T i o.n)
 have hz:=z2c i o.n
 have HS:Hid (OInv ws base N xs.length O∧Mp D O):=⟨h.inv,h.mp⟩
 clear h
 unfold Ob.ad
 go_enter Tryz.func208,Tryz.ntmps208
 go_wp2_with (first
  | (go_at_call 215;refine ha.mono ?_;rintro e w2 ⟨rfl,cs2,htk,P2,hR2,hB2,hW2⟩;have cc2:=hR2.cells;have hL:=hR2.load g _ _ hg hu.1 hu.2 hz)
  | (go_at_call 216;refine hL.mono ?_;rintro e w3 ⟨rfl,P3,hR3,hB3,hW3⟩)
  | (go_at_call 217;refine (z3B _).mono ?_;rintro e w9 ⟨rfl,hw9⟩;replace hw9:=hw9.symm;subst hw9))
 go_ret2
 exact⟨rfl,_,P3,htk.tick,⟨hR3,HS.out.1,HS.out.2⟩,hB2.wide hB3 hW2,hW2.trans hW3 hB2.size⟩
theorem zec (h:Sto w P so mb p b W base N G cs T xs ws nn D O) {a:Nat}{o:Ob}(ha:O[a]?=some o) (g i:Nat) (v:Int) (hg:g<G) (hi:i<o.n):
  Calls Tryz.prog 210 #[.pointer (some ⟨so,0,none⟩),.int .i64 g,.int .i64 o.ref,.int .i64 i,.int .i64 v] w fun e w'=>e=.returned (.int .i64 0) ∧
   ∃ cs' P',Tks cs cs' g (hop i o.n+1)∧Sto w' P' so mb p b W base N G cs' T xs (upd ws (o.ad base i) v) nn D O∧Bt P w w'∧Wider P P' w:=by
 have ho:=List.mem_of_getElem? ha
 have hf:=zat h ho g i hg hi
 have hu:=h.inv.used o ho _ (z0T i o.n)
 have hz:=z2c i o.n
 have HS:Hid (OInv (upd ws (o.ad base i) v) base N xs.length O∧Mp D O):=⟨h.inv.put ha v,h.mp⟩
 clear h ha
 go_enter Tryz.func210,Tryz.ntmps210
 go_wp2_with (first
  | (go_at_call 215;refine hf.mono ?_;rintro e w2 ⟨rfl,cs2,htk,P2,hR2,hB2,hW2⟩;have cc2:=hR2.cells;have hL:=hR2.store g _ _ v hg hu.1 hu.2 hz)
  | (go_at_call 221;refine hL.mono ?_;rintro e w3 ⟨rfl,P3,hR3,hB3,hW3⟩)
  | (go_at_call 217;refine (z3B _).mono ?_;rintro e w9 ⟨rfl,hw9⟩;replace hw9:=hw9.symm;subst hw9))
 go_ret
 exact⟨rfl,_,P3,htk.tick,⟨hR3,HS.out.1,HS.out.2⟩,hB2.wide hB3 hW2,hW2.trans hW3 hB2.size⟩
end
end Go.Proofs.YthkelaeemefnaaaGreat
