import Derived.Test.YthkelaeemefnaaaGreatMXA1qz
set_option maxRecDepth 20000
set_option maxHeartbeats 8000000
namespace Go.Proofs.YthkelaeemefnaaaGreat
open Go.RowKit
section
variable {B:Nat}{w0 w w':World}{rh hb:Nat}{X:Cm}{Z:Cx}{vf vq:Value}{fs qs:List Int}{O:Nat→Prop}
theorem z2x (h:RS B w0 rh hb X fs qs O w) (t kd cls n:Int) (b:Bool) (c d:Int) (hc:c≠0) (hd:z1H c=d) (hP:∀ Z,CvC B w0 w hb X Z→Calls Tryz.prog 32 #[.pointer (some ⟨hb,0,none⟩),.int .i64 t,.int .i64 kd,.int .i64 cls,.int .i64 n] w fun e w'=>e=.returned (.tuple #[.int .i64 0,.int .i64 c])∧Below w.heap.size w w'):
  Calls Tryz.prog 13 #[.pointer (some ⟨rh,0,none⟩),.int .i64 t,.int .i64 kd,.int .i64 cls,.int .i64 n,.bool b] w fun e w'=>e=.returned (.tuple #[.int .i64 0,.int .i64 d])∧RT B w0 rh hb X fs qs O w w':=by
 have h':=h
 obtain⟨Z,vf,vq,H,hq⟩:=h
 refine (z85 H.rv t kd cls n b (.inr (fun x c' w' (q:x=0∧c'=c∧Below w.heap.size w w')=>by rw[q.2.1];exact hc)) ((hP Z H.rv.cv).mono ?_)).mono ?_
 ·rintro e w' ⟨rfl,hb1⟩
  exact⟨0,c,rfl,rfl,rfl,hb1⟩
 ·rintro e w' ⟨x,c',rfl,rfl,rfl,hb1⟩
  exact⟨by rw[hd],h'.below hb1⟩
theorem z3Q (h:RS B w0 rh hb X fs qs O w) (t kd cls n:Int) (b:Bool) (ht:¬ (0≤t∧t<X.T)):Calls Tryz.prog 13 #[.pointer (some ⟨rh,0,none⟩),.int .i64 t,.int .i64 kd,.int .i64 cls,.int .i64 n,.bool b] w fun e w'=>e=.returned (.tuple #[.int .i64 0,.int .i64 1302])∧RT B w0 rh hb X fs qs O w w' :=
 z2x h t kd cls n b 1202 1302 (by decide) rfl (fun Z H=>(zbV H t kd cls n ht).mono fun e w' q=>⟨q.1,by rw[q.2];exact Below.refl _ _⟩)
theorem z3J (h:RS B w0 rh hb X fs qs O w) (t kd cls n:Int) (b:Bool) (ht:0≤t∧t<X.T) (hf:¬ Fits kd cls n):Calls Tryz.prog 13 #[.pointer (some ⟨rh,0,none⟩),.int .i64 t,.int .i64 kd,.int .i64 cls,.int .i64 n,.bool b] w fun e w'=>e=.returned (.tuple #[.int .i64 0,.int .i64 1304])∧RT B w0 rh hb X fs qs O w w' :=
 z2x h t kd cls n b 1204 1304 (by decide) rfl (fun Z H=>za5 H t kd cls n ht hf)
theorem z4F (h:RS B w0 rh hb X fs qs O w) (t:Nat) (kd cls n:Int) (b:Bool) (ht:t<X.T) (hf:Fits kd cls n) (hr:64≤(X.rt t).length) (ti:Int) (hti:ti=t):Calls Tryz.prog 13 #[.pointer (some ⟨rh,0,none⟩),.int .i64 ti,.int .i64 kd,.int .i64 cls,.int .i64 n,.bool b] w fun e w'=>e=.returned (.tuple #[.int .i64 0,.int .i64 1303])∧RT B w0 rh hb X fs qs O w w':=by
 subst hti
 exact z2x h t kd cls n b 1203 1303 (by decide) rfl (fun Z H=>z6E H t kd cls n ht hf hr)
theorem z5T (h:RS B w0 rh hb X fs qs O w) (t:Nat) (kd cls:Int) (n:Nat) (b:Bool) (ht:t<X.T) (hf:Fits kd cls n) (hr:(X.rt t).length<64) (hs:X.W/4<sumS X.S+(n+16)) (ti ni:Int) (hti:ti=t) (hni:ni=n):Calls Tryz.prog 13 #[.pointer (some ⟨rh,0,none⟩),.int .i64 ti,.int .i64 kd,.int .i64 cls,.int .i64 ni,.bool b] w fun e w'=>e=.returned (.tuple #[.int .i64 0,.int .i64 1301])∧RT B w0 rh hb X fs qs O w w':=by
 subst hti
 subst hni
 exact z2x h t kd cls n b 1201 1301 (by decide) rfl (fun Z H=>z8z H t kd cls n ht hf hr hs)
theorem z2D (h:RS B w0 rh hb X fs qs O w) (t r:Int) (c d:Int) (hd:z1H c=d) (hP:∀ Z,CvC B w0 w hb X Z→Calls Tryz.prog 34 #[.pointer (some ⟨hb,0,none⟩),.int .i64 t,.int .i64 r] w fun e w'=>e=.returned (.tuple #[.int .i64 0,.int .i64 c])∧Below w.heap.size w w'):
  Calls Tryz.prog 14 #[.pointer (some ⟨rh,0,none⟩),.int .i64 t,.int .i64 r] w fun e w'=>e=.returned (.tuple #[.int .i64 0,.int .i64 d])∧RT B w0 rh hb X fs qs O w w':=by
 have h':=h
 obtain⟨Z,vf,vq,H,hq⟩:=h
 refine (z4R H.rv t r (R:=fun x c' w'=>x=0∧c'=c∧Below w.heap.size w w') ((hP Z H.rv.cv).mono ?_)).mono ?_
 ·rintro e w' ⟨rfl,hb1⟩
  exact⟨0,c,rfl,rfl,rfl,hb1⟩
 ·rintro e w' ⟨x,c',rfl,rfl,rfl,hb1⟩
  exact⟨by rw[hd],h'.below hb1⟩
theorem z4n (h:RS B w0 rh hb X fs qs O w) (t r:Int) (ht:¬ (0≤t∧t<X.T)):Calls Tryz.prog 14 #[.pointer (some ⟨rh,0,none⟩),.int .i64 t,.int .i64 r] w fun e w'=>e=.returned (.tuple #[.int .i64 0,.int .i64 1302])∧RT B w0 rh hb X fs qs O w w' :=
 z2D h t r 1202 1302 rfl (fun Z H=>(zbv H t r ht).mono fun e w' q=>⟨q.1,by rw[q.2];exact Below.refl _ _⟩)
theorem z2k (h:RS B w0 rh hb X fs qs O w) (hm:X.m≤1999000) (t r:Int) (ht:0≤t∧t<X.T) (hr:z0a X.S r=none):Calls Tryz.prog 14 #[.pointer (some ⟨rh,0,none⟩),.int .i64 t,.int .i64 r] w fun e w'=>e=.returned (.tuple #[.int .i64 0,.int .i64 1302])∧RT B w0 rh hb X fs qs O w w' :=
 z2D h t r 1205 1302 rfl (fun Z H=>z97 H (by omega) t r ht hr)
theorem z50 (h:RS B w0 rh hb X fs qs O w) (hm:X.m≤1999000) (t:Nat) (r:Int) (ht:t<X.T) {k:Nat}{cl:Cel}(hk:X.S[k]?=some (some cl)) (hr:r=(k:Int)+1) (hl:64≤(X.rt t).length) (ti:Int) (hti:ti=t):Calls Tryz.prog 14 #[.pointer (some ⟨rh,0,none⟩),.int .i64 ti,.int .i64 r] w fun e w'=>e=.returned (.tuple #[.int .i64 0,.int .i64 1303])∧RT B w0 rh hb X fs qs O w w':=by
 subst hti
 exact z2D h t r 1203 1303 rfl (fun Z H=>z6y H (by omega) t r ht hk hr hl)
theorem z5K (h:RS B w0 rh hb X fs qs O w) (hm:X.m≤1999000) (t:Nat) (r:Int) (ht:t<X.T) {k:Nat}{cl:Cel}(hk:X.S[k]?=some (some cl)) (hr:r=(k:Int)+1) (hl:(X.rt t).length<64) (hs:X.W/4<sumS X.S+(1+16)) (ti:Int) (hti:ti=t):Calls Tryz.prog 14 #[.pointer (some ⟨rh,0,none⟩),.int .i64 ti,.int .i64 r] w fun e w'=>e=.returned (.tuple #[.int .i64 0,.int .i64 1301])∧RT B w0 rh hb X fs qs O w w':=by
 subst hti
 exact z2D h t r 1201 1301 rfl (fun Z H=>z8w H (by omega) t r ht hk hr hl hs)
theorem z5Q (h:RS B w0 rh hb X fs qs O w) (t r:Int) (c d:Int) (hd:z1H c=d) (hP:∀ Z,CvC B w0 w hb X Z→Calls Tryz.prog 45 #[.pointer (some ⟨hb,0,none⟩),.int .i64 t,.int .i64 r] w fun e w'=>e=.returned (.int .i64 c)∧w'=w):
  Calls Tryz.prog 20 #[.pointer (some ⟨rh,0,none⟩),.int .i64 t,.int .i64 r] w fun e w'=>e=.returned (.int .i64 d)∧RT B w0 rh hb X fs qs O w w':=by
 obtain⟨Z,vf,vq,H,hq⟩:=h
 refine (z7t H.rv t r c (X':=X) rfl ((hP Z H.rv.cv).mono ?_)).mono ?_
 ·rintro e w' ⟨rfl,rfl⟩
  exact⟨rfl,H.rv.cv.same⟩
 ·rintro e w' ⟨rfl,hT⟩
  exact⟨by rw[hd],RT.of H hT rfl hq⟩
theorem z4a (h:RS B w0 rh hb X fs qs O w) (t r:Int) (ht:¬ (0≤t∧t<X.T)):Calls Tryz.prog 20 #[.pointer (some ⟨rh,0,none⟩),.int .i64 t,.int .i64 r] w fun e w'=>e=.returned (.int .i64 1302)∧RT B w0 rh hb X fs qs O w w' :=
 z5Q h t r 1202 1302 rfl (fun _ H=>zbd H t r ht)
theorem z5j (h:RS B w0 rh hb X fs qs O w) (t:Nat) (r:Int) (ht:t<X.T) (hl:64≤(X.rt t).length) (ti:Int) (hti:ti=t):Calls Tryz.prog 20 #[.pointer (some ⟨rh,0,none⟩),.int .i64 ti,.int .i64 r] w fun e w'=>e=.returned (.int .i64 1303)∧RT B w0 rh hb X fs qs O w w':=by
 subst hti
 exact z5Q h t r 1203 1303 rfl (fun _ H=>z49 H t r ht hl)
theorem z7p (h:RS B w0 rh hb X fs qs O w) (t:Int) (c d:Int) (hd:z1H c=d) (hP:∀ Z,CvC B w0 w hb X Z→Calls Tryz.prog 35 #[.pointer (some ⟨hb,0,none⟩),.int .i64 t] w fun e w'=>e=.returned (.tuple #[.int .i64 0,.int .i64 c])∧w'=w):
  Calls Tryz.prog 15 #[.pointer (some ⟨rh,0,none⟩),.int .i64 t] w fun e w'=>e=.returned (.tuple #[.int .i64 0,.int .i64 d])∧RT B w0 rh hb X fs qs O w w':=by
 obtain⟨Z,vf,vq,H,hq⟩:=h
 refine (z77 H.rv t 0 c (X':=X) rfl ((hP Z H.rv.cv).mono ?_)).mono ?_
 ·rintro e w' ⟨rfl,rfl⟩
  exact⟨rfl,H.rv.cv.same⟩
 ·rintro e w' ⟨rfl,hT⟩
  exact⟨by rw[hd],RT.of H hT rfl hq⟩
theorem z5Y (h:RS B w0 rh hb X fs qs O w) (t:Int) (ht:¬ (0≤t∧t<X.T)):Calls Tryz.prog 15 #[.pointer (some ⟨rh,0,none⟩),.int .i64 t] w fun e w'=>e=.returned (.tuple #[.int .i64 0,.int .i64 1302])∧RT B w0 rh hb X fs qs O w w' :=
 z7p h t 1202 1302 rfl (fun _ H=>zdU H t ht)
theorem z8k (h:RS B w0 rh hb X fs qs O w) (t:Nat) (ht:t<X.T) (h0:X.rt t=[]) (ti:Int) (hti:ti=t):Calls Tryz.prog 15 #[.pointer (some ⟨rh,0,none⟩),.int .i64 ti] w fun e w'=>e=.returned (.tuple #[.int .i64 0,.int .i64 1303])∧RT B w0 rh hb X fs qs O w w':=by
 subst hti
 exact z7p h t 1203 1303 rfl (fun _ H=>z9F H t ht h0)
theorem z6g (h:RS B w0 rh hb X fs [] O w):Calls Tryz.prog 17 #[.pointer (some ⟨rh,0,none⟩)] w fun e w'=>e=.returned (.tuple #[.int .i64 0,.bool false])∧RT B w0 rh hb X fs [] O w w':=by
 have h':=h
 obtain⟨Z,vf,vq,H,hq⟩:=h
 refine (z4c H.rv).mono ?_
 rintro e w' ⟨rfl,rfl⟩
 exact⟨rfl,RT.refl h'⟩
theorem z5i {x:Int}(h:RS B w0 rh hb X fs (x::qs) O w) (ht:0<X.T) (hl:64≤(X.rt 0).length):Calls Tryz.prog 17 #[.pointer (some ⟨rh,0,none⟩)] w fun e w'=>e=.returned (.tuple #[.int .i64 0,.bool false])∧RT B w0 rh hb X fs (x::qs) O w w':=by
 have h':=h
 obtain⟨Z,vf,vq,H,hq⟩:=h
 refine (z8Q H.rv ht hl).mono ?_
 rintro e w' ⟨rfl,rfl⟩
 exact⟨rfl,RT.refl h'⟩
theorem z41 (H:Rv B w0 w rh hb X Z vf vq fs qs) (t r:Int) (ht:¬ (0≤t∧t<X.T)):
  Calls Tryz.prog 48 #[.pointer (some ⟨rh,0,none⟩),.int .i64 t,.int .i64 r] w fun e w'=>e=.returned (.int .i64 1302)∧w'=w:=by
 obtain⟨⟨_,c1,_⟩,hlt,_⟩:=H.cells4
 clear H
 generalize X.T=T at *
 by_cases h0:t<0
 ·clear ht
  go_enter Tryz.func48,Tryz.ntmps48
  go_wp2
  go_ret
  exact⟨rfl,rfl⟩
 ·have d0:decide (t<0)=false:=by simpa using h0
  have d1:(T:Int)≤t:=by omega
  clear ht h0
  go_enter Tryz.func48,Tryz.ntmps48
  go_wp2
  go_ret
  exact⟨rfl,rfl⟩
theorem z2Y (H:Rv B w0 w rh hb X Z vf vq fs qs) (hm:X.m≤2000000) (t r:Int) (ht:0≤t∧t<X.T) {cl:Cel}(hc:z0a X.S r=some cl) (h4:cl.kind=4):
  Calls Tryz.prog 48 #[.pointer (some ⟨rh,0,none⟩),.int .i64 t,.int .i64 r] w fun e w'=>e=.returned (.int .i64 1304)∧Below w.heap.size w w':=by
 obtain⟨⟨_,c1,_⟩,hlt,_⟩:=H.cells4
 have hI:=z3v H hm r true ⟨fun _=>⟨cl,hc,h4⟩,fun _=>rfl⟩
 obtain⟨h0,h1⟩:=ht
 have d0:decide (t<0)=false:=by simpa using h0
 have d1:decide (t ≥ (X.T:Int))=false:=by simpa using h1
 clear H hc h4 hm
 generalize X.T=T at *
 go_enter Tryz.func48,Tryz.ntmps48
 go_wp2_with (go_at_call 51;refine hI.mono ?_;rintro e w1 ⟨rfl,b1⟩;clear hI)
 go_ret
 exact⟨rfl,b1⟩
theorem z5e (h:RS B w0 rh hb X fs qs O w) (t r i d:Int) (hd:(d == 0)=false) (hA:∀ Z vf vq,Rv B w0 w rh hb X Z vf vq fs qs→Calls Tryz.prog 48 #[.pointer (some ⟨rh,0,none⟩),.int .i64 t,.int .i64 r] w fun e w'=>e=.returned (.int .i64 d)∧Below w.heap.size w w'):
  Calls Tryz.prog 21 #[.pointer (some ⟨rh,0,none⟩),.int .i64 t,.int .i64 r,.int .i64 i] w fun e w'=>e=.returned (.tuple #[.int .i64 0,.int .i64 d])∧RT B w0 rh hb X fs qs O w w':=by
 have HX:Hid (∀ u,Below w.heap.size w u→RT B w0 rh hb X fs qs O w u):=fun u b=>h.below b
 obtain⟨Z,vf,vq,H,hq⟩:=h
 have hA:=hA Z vf vq H.rv
 clear H hq
 go_enter Tryz.func21,Tryz.ntmps21
 go_wp2_with (go_at_call 48;refine hA.mono ?_;rintro e w1 ⟨rfl,b1⟩;clear hA)
 go_ret2
 exact⟨rfl,HX.out _ b1⟩
theorem z7k (h:RS B w0 rh hb X fs qs O w) (t r i v d:Int) (hd:(d == 0)=false) (hA:∀ Z vf vq,Rv B w0 w rh hb X Z vf vq fs qs→Calls Tryz.prog 48 #[.pointer (some ⟨rh,0,none⟩),.int .i64 t,.int .i64 r] w fun e w'=>e=.returned (.int .i64 d)∧Below w.heap.size w w'):
  Calls Tryz.prog 19 #[.pointer (some ⟨rh,0,none⟩),.int .i64 t,.int .i64 r,.int .i64 i,.int .i64 v] w fun e w'=>e=.returned (.int .i64 d)∧RT B w0 rh hb X fs qs O w w':=by
 have HX:Hid (∀ u,Below w.heap.size w u→RT B w0 rh hb X fs qs O w u):=fun u b=>h.below b
 obtain⟨Z,vf,vq,H,hq⟩:=h
 have hA:=hA Z vf vq H.rv
 clear H hq
 go_enter Tryz.func19,Tryz.ntmps19
 go_wp2_with (go_at_call 48;refine hA.mono ?_;rintro e w1 ⟨rfl,b1⟩;clear hA)
 go_ret
 exact⟨rfl,HX.out _ b1⟩
theorem z66 (h:RS B w0 rh hb X fs qs O w) (hm:X.m≤1999000) (t r i c d:Int) (ht:0≤t∧t<X.T) (hr:∀ cl,z0a X.S r=some cl→cl.kind≠4) (hd:z1H c=d) (hL:∀ Z u,CvC B w0 u hb X Z→Calls Tryz.prog 50 #[.pointer (some ⟨hb,0,none⟩),.int .i64 t,.int .i64 r,.int .i64 i] u fun e w'=>e=.returned (.tuple #[.int .i64 0,.int .i64 c])∧Below u.heap.size u w'):
  Calls Tryz.prog 21 #[.pointer (some ⟨rh,0,none⟩),.int .i64 t,.int .i64 r,.int .i64 i] w fun e w'=>e=.returned (.tuple #[.int .i64 0,.int .i64 d])∧RT B w0 rh hb X fs qs O w w':=by
 have HX:Hid (∀ u,Below w.heap.size w u→RT B w0 rh hb X fs qs O w u):=fun u b=>h.below b
 obtain⟨Z,vf,vq,H,hq⟩:=h
 have hA:Calls Tryz.prog 48 #[.pointer (some ⟨rh,0,none⟩),.int .i64 t,.int .i64 r] w fun e w1=>e=.returned (.int .i64 0)∧(w1.cell? ⟨rh,0,none⟩=some (.pointer (some ⟨hb,0,none⟩))∧rh<w1.heap.size)∧Calls Tryz.prog 50 #[.pointer (some ⟨hb,0,none⟩),.int .i64 t,.int .i64 r,.int .i64 i] w1 fun e w2=>e=.returned (.tuple #[.int .i64 0,.int .i64 c])∧Below w.heap.size w w2:=(z26 H.rv (by omega) t r ht hr).mono fun e w1 q=>by
  obtain⟨rfl,b1⟩:=q
  have H1:=H.rv.below b1
  refine⟨rfl,⟨H1.cells4.1.1,H1.hlt⟩,(hL _ _ H1.cv).mono ?_⟩
  rintro e w2 ⟨rfl,b2⟩
  exact⟨rfl,b1.trans (b2.mono b1.size)⟩
 have hO:=z1i c
 rw[hd] at hO
 have hlt:=H.rv.hlt
 clear H hq hL hr ht hm hd
 go_enter Tryz.func21,Tryz.ntmps21
 go_wp2_with (first
  | (go_at_call 48;refine hA.mono ?_;rintro e w1 ⟨rfl,⟨k1,k2⟩,hL⟩;clear hA)
  | (go_at_call 50;refine hL.mono ?_;rintro e w2 ⟨rfl,b2⟩;clear hL)
  | (go_at_call 33;refine (hO _).mono ?_;rintro e w9 ⟨rfl,hw9⟩;replace hw9:=hw9.symm;subst hw9))
 go_ret2
 exact⟨rfl,HX.out _ b2⟩
theorem z7B (h:RS B w0 rh hb X fs qs O w) (hm:X.m≤1999000) (t r i v c d:Int) (ht:0≤t∧t<X.T) (hr:∀ cl,z0a X.S r=some cl→cl.kind≠4) (hd:z1H c=d) (hL:∀ Z u,CvC B w0 u hb X Z→Calls Tryz.prog 49 #[.pointer (some ⟨hb,0,none⟩),.int .i64 t,.int .i64 r,.int .i64 i,.int .i64 v] u fun e w'=>e=.returned (.int .i64 c)∧∃ c',CcT B w0 u hb Z { X with m:=X.m+1,c:=c' } w'):
  Calls Tryz.prog 19 #[.pointer (some ⟨rh,0,none⟩),.int .i64 t,.int .i64 r,.int .i64 i,.int .i64 v] w fun e w'=>e=.returned (.int .i64 d)∧∃ c',RT B w0 rh hb (X.cost 1 c') fs qs O w w':=by
 obtain⟨Z,vf,vq,H,hq⟩:=h
 obtain⟨P,hP⟩:∃ P:World→Prop,P=fun w2=>∃ c',RT B w0 rh hb (X.cost 1 c') fs qs O w w2:=⟨_,rfl⟩
 have hA:Calls Tryz.prog 48 #[.pointer (some ⟨rh,0,none⟩),.int .i64 t,.int .i64 r] w fun e w1=>e=.returned (.int .i64 0)∧(w1.cell? ⟨rh,0,none⟩=some (.pointer (some ⟨hb,0,none⟩))∧rh<w1.heap.size)∧Calls Tryz.prog 49 #[.pointer (some ⟨hb,0,none⟩),.int .i64 t,.int .i64 r,.int .i64 i,.int .i64 v] w1 fun e w2=>e=.returned (.int .i64 c)∧P w2:=(z26 H.rv (by omega) t r ht hr).mono fun e w1 q=>by
  obtain⟨rfl,b1⟩:=q
  have H1:=H.rv.below b1
  refine⟨rfl,⟨H1.cells4.1.1,H1.hlt⟩,(hL _ _ H1.cv).mono ?_⟩
  rintro e w2 ⟨rfl,c',hT⟩
  refine⟨rfl,?_⟩
  rw[hP]
  exact⟨c',RT.of (X':=X.cost 1 c') H (RvT.after b1 (H1.heapT hT rfl)) rfl (hq.cost _ _)⟩
 have hO:=z1i c
 rw[hd] at hO
 have hlt:=H.rv.hlt
 clear H hq hL hr ht hm hd
 have HP:Hid (P=fun w2=>∃ c',RT B w0 rh hb (X.cost 1 c') fs qs O w w2):=hP
 have hpost:(fun (e:Ending) w'=>e=Ending.returned (.int .i64 d)∧∃ c',RT B w0 rh hb (X.cost 1 c') fs qs O w w')=fun e w'=>e=Ending.returned (.int .i64 d)∧P w':=by rw[hP]
 rw[hpost]
 clear hP hpost
 go_enter Tryz.func19,Tryz.ntmps19
 go_wp2_with (first
  | (go_at_call 48;refine hA.mono ?_;rintro e w1 ⟨rfl,⟨k1,k2⟩,hL⟩;clear hA)
  | (go_at_call 49;refine hL.mono ?_;rintro e w2 ⟨rfl,hT⟩;clear hL)
  | (go_at_call 33;refine (hO _).mono ?_;rintro e w9 ⟨rfl,hw9⟩;replace hw9:=hw9.symm;subst hw9))
 go_ret
 exact⟨rfl,hT⟩
theorem z2H (h:RS B w0 rh hb X fs qs O w) (t r i:Int) (ht:¬ (0≤t∧t<X.T)):Calls Tryz.prog 21 #[.pointer (some ⟨rh,0,none⟩),.int .i64 t,.int .i64 r,.int .i64 i] w fun e w'=>e=.returned (.tuple #[.int .i64 0,.int .i64 1302])∧RT B w0 rh hb X fs qs O w w' :=
 z5e h t r i 1302 (by decide) (fun Z vf vq H=>(z41 H t r ht).mono fun e w' q=>⟨q.1,by rw[q.2];exact Below.refl _ _⟩)
theorem z5S (h:RS B w0 rh hb X fs qs O w) (hm:X.m≤1999000) (t r i:Int) (ht:0≤t∧t<X.T) {cl:Cel}(hc:z0a X.S r=some cl) (h4:cl.kind=4):Calls Tryz.prog 21 #[.pointer (some ⟨rh,0,none⟩),.int .i64 t,.int .i64 r,.int .i64 i] w fun e w'=>e=.returned (.tuple #[.int .i64 0,.int .i64 1304])∧RT B w0 rh hb X fs qs O w w' :=
 z5e h t r i 1304 (by decide) (fun Z vf vq H=>z2Y H (by omega) t r ht hc h4)
theorem z70 (h:RS B w0 rh hb X fs qs O w) (hm:X.m≤1999000) (t r i:Int) (ht:0≤t∧t<X.T) (hr:z0a X.S r=none):Calls Tryz.prog 21 #[.pointer (some ⟨rh,0,none⟩),.int .i64 t,.int .i64 r,.int .i64 i] w fun e w'=>e=.returned (.tuple #[.int .i64 0,.int .i64 1302])∧RT B w0 rh hb X fs qs O w w' :=
 z66 h hm t r i 1205 1302 ht (fun cl q=>by rw[hr] at q;simp at q) rfl (fun Z u H=>zaL H (by omega) t r i ht hr)
theorem z3F (h:RS B w0 rh hb X fs qs O w) (hm:X.m≤1999000) (t r i:Int) (ht:0≤t∧t<X.T) {k:Nat}{cl:Cel}(hk:X.S[k]?=some (some cl)) (hr:r=(k:Int)+1) (h4:cl.kind≠4) (hi:¬ (0≤i∧i<cl.n)):Calls Tryz.prog 21 #[.pointer (some ⟨rh,0,none⟩),.int .i64 t,.int .i64 r,.int .i64 i] w fun e w'=>e=.returned (.tuple #[.int .i64 0,.int .i64 1304])∧RT B w0 rh hb X fs qs O w w':=by
 subst hr
 exact z66 h hm t _ i 1204 1304 ht (fun c q=>by rw[z0u,hk] at q;simp at q;rw[← q];exact h4) rfl (fun Z u H=>za6 H (by omega) t i ht hk hi)
theorem z3G (h:RS B w0 rh hb X fs qs O w) (t r i v:Int) (ht:¬ (0≤t∧t<X.T)):Calls Tryz.prog 19 #[.pointer (some ⟨rh,0,none⟩),.int .i64 t,.int .i64 r,.int .i64 i,.int .i64 v] w fun e w'=>e=.returned (.int .i64 1302)∧RT B w0 rh hb X fs qs O w w' :=
 z7k h t r i v 1302 (by decide) (fun Z vf vq H=>(z41 H t r ht).mono fun e w' q=>⟨q.1,by rw[q.2];exact Below.refl _ _⟩)
theorem z6T (h:RS B w0 rh hb X fs qs O w) (hm:X.m≤1999000) (t r i v:Int) (ht:0≤t∧t<X.T) {cl:Cel}(hc:z0a X.S r=some cl) (h4:cl.kind=4):Calls Tryz.prog 19 #[.pointer (some ⟨rh,0,none⟩),.int .i64 t,.int .i64 r,.int .i64 i,.int .i64 v] w fun e w'=>e=.returned (.int .i64 1304)∧RT B w0 rh hb X fs qs O w w' :=
 z7k h t r i v 1304 (by decide) (fun Z vf vq H=>z2Y H (by omega) t r ht hc h4)
theorem z8I (h:RS B w0 rh hb X fs qs O w) (hm:X.m≤1999000) (t r i v:Int) (ht:0≤t∧t<X.T) (hr:z0a X.S r=none):Calls Tryz.prog 19 #[.pointer (some ⟨rh,0,none⟩),.int .i64 t,.int .i64 r,.int .i64 i,.int .i64 v] w fun e w'=>e=.returned (.int .i64 1302)∧∃ c',RT B w0 rh hb (X.cost 1 c') fs qs O w w' :=
 z7B h hm t r i v 1205 1302 ht (fun cl q=>by rw[hr] at q;simp at q) rfl (fun Z u H=>zcS H (by omega) t r i v ht hr)
theorem z4o (h:RS B w0 rh hb X fs qs O w) (hm:X.m≤1999000) (t r i v:Int) (ht:0≤t∧t<X.T) {k:Nat}{cl:Cel}(hk:X.S[k]?=some (some cl)) (hr:r=(k:Int)+1) (h4:cl.kind≠4) (hi:¬ (0≤i∧i<cl.n)):Calls Tryz.prog 19 #[.pointer (some ⟨rh,0,none⟩),.int .i64 t,.int .i64 r,.int .i64 i,.int .i64 v] w fun e w'=>e=.returned (.int .i64 1304)∧∃ c',RT B w0 rh hb (X.cost 1 c') fs qs O w w':=by
 subst hr
 exact z7B h hm t _ i v 1204 1304 ht (fun c q=>by rw[z0u,hk] at q;simp at q;rw[← q];exact h4) rfl (fun Z u H=>zc7 H (by omega) t i v ht hk hi)
theorem z6z (h:RS B w0 rh hb X fs qs O w) (hm:X.m≤1999000) (t r:Int) (hr:∀ cl,z0a X.S r=some cl→cl.kind≠4):Calls Tryz.prog 22 #[.pointer (some ⟨rh,0,none⟩),.int .i64 t,.int .i64 r] w fun e w'=>e=.returned (.tuple #[.int .i64 0,.int .i64 1302])∧RT B w0 rh hb X fs qs O w w':=by
 have HX:Hid (∀ u,Below w.heap.size w u→RT B w0 rh hb X fs qs O w u):=fun u b=>h.below b
 obtain⟨Z,vf,vq,H,hq⟩:=h
 have hI:=z3v H.rv (by omega) r false ⟨fun q=>by simp at q,fun ⟨cl,h1,h2⟩=>absurd h2 (hr cl h1)⟩
 clear H hq hr hm
 go_enter Tryz.func22,Tryz.ntmps22
 go_wp2_with (go_at_call 51;refine hI.mono ?_;rintro e w1 ⟨rfl,b1⟩;clear hI)
 go_ret2
 exact⟨rfl,HX.out _ b1⟩
theorem z6n (h:RS B w0 rh hb X fs qs O w) (hm:X.m≤1999000) (t r:Int) (ht:¬ (0≤t∧t<X.T)) {cl:Cel}(hc:z0a X.S r=some cl) (h4:cl.kind=4):Calls Tryz.prog 22 #[.pointer (some ⟨rh,0,none⟩),.int .i64 t,.int .i64 r] w fun e w'=>e=.returned (.tuple #[.int .i64 0,.int .i64 1302])∧RT B w0 rh hb X fs qs O w w':=by
 have HX:Hid (∀ u,Below w.heap.size w u→RT B w0 rh hb X fs qs O w u):=fun u b=>h.below b
 obtain⟨Z,vf,vq,H,hq⟩:=h
 have hI:Calls Tryz.prog 51 #[.pointer (some ⟨rh,0,none⟩),.int .i64 r] w fun e w1=>e=.returned (.bool true)∧(w1.cell? ⟨rh,0,none⟩=some (.pointer (some ⟨hb,0,none⟩))∧rh<w1.heap.size)∧Below w.heap.size w w1∧Calls Tryz.prog 50 #[.pointer (some ⟨hb,0,none⟩),.int .i64 t,.int .i64 r,.int .i64 0] w1 fun e w2=>e=.returned (.tuple #[.int .i64 0,.int .i64 1202])∧w2=w1:=(z3v H.rv (by omega) r true ⟨fun _=>⟨cl,hc,h4⟩,fun _=>rfl⟩).mono fun e w1 q=>by
  obtain⟨rfl,b1⟩:=q
  have H1:=H.rv.below b1
  exact⟨rfl,⟨H1.cells4.1.1,H1.hlt⟩,b1,zbE H1.cv t r 0 ht⟩
 have hO:=z1i 1202
 have e0:z1H 1202=1302:=rfl
 rw[e0] at hO
 clear H hq hc h4 hm ht e0
 go_enter Tryz.func22,Tryz.ntmps22
 go_wp2_with (first
  | (go_at_call 51;refine hI.mono ?_;rintro e w1 ⟨rfl,⟨k1,k2⟩,b1,hL⟩;clear hI)
  | (go_at_call 50;refine hL.mono ?_;rintro e w9 ⟨rfl,hw9⟩;replace hw9:=hw9.symm;subst hw9)
  | (go_at_call 33;refine (hO _).mono ?_;rintro e w9 ⟨rfl,hw9⟩;replace hw9:=hw9.symm;subst hw9))
 go_ret2
 exact⟨rfl,HX.out _ b1⟩
end
end Go.Proofs.YthkelaeemefnaaaGreat
namespace Go.Proofs.YthkelaeemefnaaaGreat
open Go.RowKit
structure Pb13 (B:Nat) (w0 w:World) (rh hb:Nat) (X:Cm) (fs qs:List Int) (y rb W T:Nat) (va vq:Value) (vr:Nat→Value) (R:Nat→List Int) (Q:List Int) (L:List Lr) (x:Nat) (K A C S P I O V:Int) (F:Bool):Prop where
 play:Pl13 B w0 w rh hb X fs qs y rb W T va vq vr R Q L (fun k=>k=x)
 box:w.heap[x]?=some (.cells #[.int .i64 K,.int .i64 A,.int .i64 C,.int .i64 S,.int .i64 P,.int .i64 I,.int .i64 O,.int .i64 V,.bool F] 37 (0,0))
def z0p (B:Nat) (w0:World) (rh hb y rb W T i:Nat) (e:Ending) (w':World):Prop:=e=.returned (.bool true)∧Ed13 B w0 rh hb y rb W T i w'
section
variable {B:Nat}{w0 w w':World}{rh hb:Nat}{X X':Cm}{fs qs fs' qs':List Int}{y rb W T i:Nat}{va vq:Value}{vr:Nat→Value}{R:Nat→List Int}{Q:List Int}{L:List Lr}{x:Nat}{K A C S P I O V:Int}{F:Bool}
theorem Pb13.start (H:Pl13 B w0 w rh hb X fs qs y rb W T va vq vr R Q L (fun _=>False)) (K A C S P I O V:Int) (F:Bool):Pb13 B w0 (w.alloc (.cells #[.int .i64 K,.int .i64 A,.int .i64 C,.int .i64 S,.int .i64 P,.int .i64 I,.int .i64 O,.int .i64 V,.bool F] 37)) rh hb X fs qs y rb W T va vq vr R Q L w.heap.size K A C S P I O V F:=⟨H.box _,heap_alloc_new w _⟩
theorem Pb13.below (H:Pb13 B w0 w rh hb X fs qs y rb W T va vq vr R Q L x K A C S P I O V F) (b:Below w.heap.size w w'):Pb13 B w0 w' rh hb X fs qs y rb W T va vq vr R Q L x K A C S P I O V F:=⟨H.play.below b,(b.block x (z02 H.box)).trans H.box⟩
theorem Pb13.call (H:Pb13 B w0 w rh hb X fs qs y rb W T va vq vr R Q L x K A C S P I O V F) (h:RT B w0 rh hb X' fs' qs' (fun k=>Pown y rb va (bunL vq Q vr R T L) k∨k=x) w w'):Pb13 B w0 w' rh hb X' fs' qs' y rb W T va vq vr R Q L x K A C S P I O V F:=⟨H.play.call h,(h.2.1 x (.inr rfl)).trans H.box⟩
theorem Pb13.nine (H:Pb13 B w0 w rh hb X fs qs y rb W T va vq vr R Q L x K A C S P I O V F):(w.cell? ⟨x,0,none⟩=some (.int .i64 K)∧w.cell? ⟨x,1,none⟩=some (.int .i64 A)∧w.cell? ⟨x,2,none⟩=some (.int .i64 C)∧w.cell? ⟨x,3,none⟩=some (.int .i64 S)∧w.cell? ⟨x,4,none⟩=some (.int .i64 P)∧w.cell? ⟨x,5,none⟩=some (.int .i64 I)∧w.cell? ⟨x,6,none⟩=some (.int .i64 O)∧w.cell? ⟨x,7,none⟩=some (.int .i64 V)∧w.cell? ⟨x,8,none⟩=some (.bool F))∧x<w.heap.size:=by
 refine⟨?_,z02 H.box⟩
 simp[World.cell?,H.box]
theorem Pb13.facts (H:Pb13 B w0 w rh hb X fs qs y rb W T va vq vr R Q L x K A C S P I O V F):((w.cell? ⟨y,0,none⟩=some (.pointer (some ⟨rh,0,none⟩))∧w.cell? ⟨y,1,none⟩=some (.int .i64 W)∧w.cell? ⟨y,2,none⟩=some (.int .i64 T)∧w.cell? ⟨y,3,none⟩=some va∧w.cell? ⟨y,4,none⟩=some (.slice (some ⟨rb,0,none⟩) T T)∧w.cell? ⟨y,5,none⟩=some vq)∧y<w.heap.size)∧((w.cell? ⟨x,0,none⟩=some (.int .i64 K)∧w.cell? ⟨x,1,none⟩=some (.int .i64 A)∧w.cell? ⟨x,2,none⟩=some (.int .i64 C)∧w.cell? ⟨x,3,none⟩=some (.int .i64 S)∧w.cell? ⟨x,4,none⟩=some (.int .i64 P)∧w.cell? ⟨x,5,none⟩=some (.int .i64 I)∧w.cell? ⟨x,6,none⟩=some (.int .i64 O)∧w.cell? ⟨x,7,none⟩=some (.int .i64 V)∧w.cell? ⟨x,8,none⟩=some (.bool F))∧x<w.heap.size):=⟨⟨H.play.lm.cells,H.play.lm.y_lt⟩,H.nine⟩
theorem Pb13.stay (H:Pb13 B w0 w rh hb X fs qs y rb W T va vq vr R Q L x K A C S P I O V F) {t:Nat}(ht:t<T) (hB:Bt (fun k=>(vr t).ownBlock=some k) w w') (j:Nat):w'.cell? ⟨x,j,none⟩=w.cell? ⟨x,j,none⟩:=by
 refine z0q (a:=⟨x,j,none⟩) (hB.block x (z02 H.box) (fun e=>?_))
 obtain⟨cur,h1⟩:=(H.play.lm.root ht).1.kind e
 rw[H.box] at h1
 simp at h1
theorem Ok13.rooted (h:Ok13 X fs qs W T L i) (t:Nat) {l:List Int}(hl:l.length≤64) (hq:qs'.length≤qs.length):Ok13 (X.rooted t l) fs qs' W T L (i+1):=by
 have h1:=h.few
 have h2:=h.cost
 have h3:=h.cy
 refine⟨⟨h.ag.refs,h.ag.cel,h.ag.fin,h.ag.weak⟩,h.eT,h.eW,h.lim,fun u hu=>?_,by omega,?_,?_⟩
 ·show (setL X.rt t l u).length≤64
  unfold setL
  split
  ·exact hl
  ·exact h.r64 u hu
 ·show X.m+500*cntS X.S≤_
  omega
 ·show 0≤X.cy∧X.cy≤_
  omega
theorem Ok13.costed (h:Ok13 X fs qs W T L i) {m:Nat}(hm:m≤1000) (c':Int→Int):Ok13 (X.cost m c') fs qs W T L (i+1):=by
 have h1:=h.few
 have h2:=h.cost
 have h3:=h.cy
 refine⟨⟨h.ag.refs,h.ag.cel,h.ag.fin,h.ag.weak⟩,h.eT,h.eW,h.lim,h.r64,by omega,?_,?_⟩
 ·show X.m+m+500*cntS X.S≤_
  omega
 ·show 0≤X.cy∧X.cy≤_
  omega
theorem Ok13.pick (h:Ok13 X fs qs W T L i) (hi:i≤200) (H:Pb13 B w0 w rh hb X fs qs y rb W T va vq vr X.rt qs L x K A C S P I O V F) (p kd:Int):Calls Tryz.prog 57 #[.pointer (some ⟨y,0,none⟩),.int .i64 p,.int .i64 kd] w (z0w w X qs L kd):=zcN (h.se (by omega) H.play) p kd
theorem Ok13.picked (h:Ok13 X fs qs W T L i) {r kd:Int}(hr:r=0∨∃ (i:Nat) (x:Lr),L[i]?=some x∧x.ref=r∧RchQ X qs r∧(kd=0∨x.kind=kd)):r=0∨r∈nums 0 X.S:=hr.imp id (fun ⟨_,x,hx,e,_⟩=>by rw[← h.ag.refs,← e];exact List.mem_map.2 ⟨x,List.mem_of_getElem? hx,rfl⟩)
theorem Ed13.of (H:Pl13 B w0 w rh hb X fs qs y rb W T va vq vr X.rt qs L (fun k=>k=x)) (h:Ok13 X fs qs W T L i):Ed13 B w0 rh hb y rb W T i w:=⟨X,fs,qs,va,vq,vr,L,H.less,h⟩
end
end Go.Proofs.YthkelaeemefnaaaGreat
namespace Go.Proofs.YthkelaeemefnaaaGreat
open Go.RowKit
section
variable {B:Nat}{w0 w w':World}{rh hb:Nat}{X:Cm}{fs qs:List Int}{y rb W T i:Nat}{va vq:Value}{vr:Nat→Value}{R:Nat→List Int}{Q:List Int}{L:List Lr}{E:Nat→Prop}
theorem Pl13.setq (H:Pl13 B w0 w rh hb X fs qs y rb W T va vq vr R Q L E) {w3:World}{v:Value}{U:List Int}(hB:Bt (fun k=>vq.ownBlock=some k) w w3) (hv:Ri w3 B v U) (hat:v.ownBlock=vq.ownBlock∨∃ j,v.ownBlock=some j∧w.heap.size≤j):(w3.cell? ⟨y,5,none⟩=some vq∧y<w3.heap.size∧w3.frozen? ⟨y,5,none⟩=false)∧Pl13 B w0 (w3.setCell ⟨y,5,none⟩ v) rh hb X fs qs y rb W T va v vr R U L E:=by
 have hmem:(vq,Q)∈bunL vq Q vr R T L:=List.mem_of_getElem? z7r
 obtain⟨a1,a2,a3,a4⟩:=H.lm.apart
 obtain⟨b1,b2,b3⟩:=a4 _ hmem
 have hy:w3.heap[y]?=w.heap[y]?:=hB.block y H.lm.y_lt b1
 have hat2:v.ownBlock=vq.ownBlock∨∀ k,v.ownBlock=some k→w.heap.size≤k:=by
  rcases hat with q|⟨j,q1,q2⟩
  ·exact .inl q
  ·exact .inr (fun k hk=>by rw[q1] at hk;simp at hk;omega)
 have bun3:=H.lm.bun.set (i:=0) z7r hB hv hat2
 rw[z3e] at bun3
 have st:∀ k,k<w.heap.size→k≠y→vq.ownBlock≠some k→(w3.setCell ⟨y,5,none⟩ v).heap[k]?=w.heap[k]?:=fun k hk h1 h2=>(z03 _ _ h1).trans (hB.block k hk h2)
 have hBt:Bt (Pown y rb va (bunL vq Q vr R T L)) w (w3.setCell ⟨y,5,none⟩ v):=by
  refine⟨hB.os,hB.tape,hB.output,by simpa [World.setCell] using hB.size,fun k hk hn=>st k hk (fun q=>hn (.inl q)) (fun q=>hn (.inr (.inr (.inr ⟨_,hmem,q⟩))))⟩
 have hh:w3.heap[y]?=some (.cells #[.pointer (some ⟨rh,0,none⟩),.int .i64 W,.int .i64 T,va,.slice (some ⟨rb,0,none⟩) T T,vq] 34 (0,0)):=hy.trans H.lm.here
 refine⟨⟨(z0q (a:=⟨y,5,none⟩) hy).trans H.lm.cells.2.2.2.2.2,Nat.lt_of_lt_of_le H.lm.y_lt hB.size,frz hh 5⟩,H.remake hBt ⟨?_,H.lm.row.of_block (fun k hk=>st k (H.lm.row.lt hk).2 (fun q=>a2 (by rw[hk,q])) (fun q=>b3 k q hk)),H.lm.rts.of_block (st rb H.lm.rb_lt (fun q=>a1 q.symm) b2),bun3.same (fun q hq k hk=>z03 _ _ (fun z=>?_)),H.lm.low⟩ (fun k hk=>?_)⟩
 ·rw[mset hh];rfl
 ·have z:k=y:=z
  subst z
  obtain⟨j,hj,e⟩:=List.getElem_of_mem hq
  obtain⟨cur,h1⟩:=(bun3.row j q (by rw[List.getElem?_eq_getElem hj,e])).kind hk
  rw[hh] at h1;simp at h1
 ·rcases hk with q|q|q|⟨p,q1,q2⟩
  ·exact .inl (.inl q)
  ·exact .inl (.inr (.inl q))
  ·exact .inl (.inr (.inr (.inl q)))
  ·rw[← z3e (vq:=vq) (Q:=Q)] at q1
   rcases List.mem_or_eq_of_mem_set q1 with z|z
   ·exact .inl (.inr (.inr (.inr ⟨p,z,q2⟩)))
   ·rw[z] at q2
    rcases hat with z2|⟨j,z1,z2⟩
    ·exact .inl (.inr (.inr (.inr ⟨_,hmem,by rw[← z2];exact q2⟩)))
    ·have:v.ownBlock=some k:=q2
     rw[z1] at this
     simp at this
     subst this
     exact .inr ⟨z2,by simpa [World.setCell] using (hv.lt z1).2⟩
theorem Ri.addsAt {v:Value}{U V:List Int}(h:Ri w B v U) (hB:B≤w.heap.size) (a:Addr) (c:Nat) (hV:∀ j x,V[j]?=some x→w.cell? (a.add j)=some (.int .i64 x)) (hl:U.length+V.length≤10000):∃ ao cap w',(appC #[32,32] 32 #[v,.slice (some a) V.length c]).run Tryz.prog w=.ok (.slice ao (U.length+V.length) cap) w'∧Ri w' B (.slice ao (U.length+V.length) cap) (U++V)∧w.grownBy w' v.ownBlock∧((Value.slice ao (U.length+V.length) cap).ownBlock=v.ownBlock∨∃ j,(Value.slice ao (U.length+V.length) cap).ownBlock=some j∧w.heap.size≤j):=by
 obtain⟨i0,hi0,hzz⟩:=Option.map_eq_some_iff.1 z8C
 simp only[Prod.mk.injEq] at hzz
 obtain⟨hz0,hz1,hz2⟩:=hzz
 have hnew:∀ j u,(V.map fun u=>Value.int .i64 u)[j]?=some u→w.cell? (a.add j)=some u:=by
  intro j u hu
  rw[List.getElem?_map] at hu
  obtain⟨x,hx,rfl⟩:=Option.map_eq_some_iff.1 hu
  exact hV j x hx
 obtain⟨v',w',hrun,hown,hg,_,hat⟩:=run_append_own_at (P:=Tryz.prog) w B 32 32 3 i0 _ 1 8 Tryz.underlying32 hi0 hz0 hz1 hz2 rfl (by decide) v U.length _ h a V.length c (V.map fun u=>Value.int .i64 u) (by simp) hnew (by
  intro u hu
  obtain⟨x,_,rfl⟩:=List.mem_map.1 hu
  simp[Value.oneCell']) (by unfold maxLen;omega) (by omega) hB
 have hR:Ri w' B v' (U++V):=by unfold Ri;rw[List.map_append,List.length_append];exact hown
 obtain⟨ao,cap,e⟩:=hR.form
 rw[List.length_append] at e
 subst e
 exact⟨ao,cap,w',hrun,hR,hg,hat.imp id (fun q=>⟨_,q,Nat.le_refl _⟩)⟩
theorem Ri.empty (w:World) (hB:B≤w.heap.size):Ri (w.alloc (.cells #[] 3)) B (.slice (some ⟨w.heap.size,0,none⟩) 0 0) [] :=
 ⟨rfl,.inr ⟨w.heap.size,0,#[],rfl,hB,heap_alloc_new w (.cells #[] 3),Nat.le_refl _,Nat.zero_le _,rfl,rfl⟩⟩
attribute [local go_sem ↓] z1I
theorem zbA (H:Pl13 B w0 w rh hb X fs qs y rb W T va vq vr X.rt qs L (fun _=>False)) (hO:Ok13 X fs qs W T L i) (hi:i≤200):
  Calls Tryz.prog 28 #[.pointer (some ⟨y,0,none⟩)] w (z0p B w0 rh hb y rb W T (i+1)):=by
 have HO:Hid (Ok13 X fs qs W T L i):=hO
 obtain⟨hT1,hT2,_⟩:=hO.lim
 have h0:0<X.T:=by rw[hO.eT];omega
 obtain⟨c0,c1,c2,c3,c4,c5⟩:=H.lm.cells
 have hyl:=H.lm.y_lt
 obtain⟨hr0,kr⟩:=H.lm.root (show 0<T by omega)
 obtain⟨ar,cr,er⟩:=hr0.form
 obtain⟨aq,cq,eq⟩:=H.lm.que.form
 have g0:(0:Int)<(T:Int):=by omega
 cases hq:qs with
 | nil =>
  subst hq
  have hN:Calls Tryz.prog 17 #[.pointer (some ⟨rh,0,none⟩)] w fun e w'=>e=.returned (.tuple #[.int .i64 0,.bool false])∧Pl13 B w0 w' rh hb X fs [] y rb W T va vq vr X.rt [] L (fun _=>False):=(z6g H.rs).mono fun e w' q=>⟨q.1,H.call q.2⟩
  clear H hO hr0 kr er
  go_enter Tryz.func28,Tryz.ntmps28
  go_wp2_with (go_at_call 17;refine hN.mono ?_;rintro e w1 ⟨rfl,h1⟩;obtain⟨d0,d1,d2,d3,d4,d5⟩:=h1.lm.cells;have dl:=h1.lm.y_lt;rw[eq] at d5;have HE:Hid (Ed13 B w0 rh hb y rb W T (i+1) w1):=Ed13.same h1 HO.out;clear hN h1)
  go_ret
  exact⟨rfl,HE.out⟩
 | cons x q =>
  subst hq
  by_cases hl:64≤(X.rt 0).length
  ·have hN:Calls Tryz.prog 17 #[.pointer (some ⟨rh,0,none⟩)] w fun e w'=>e=.returned (.tuple #[.int .i64 0,.bool false])∧Pl13 B w0 w' rh hb X fs (x::q) y rb W T va vq vr X.rt (x::q) L (fun _=>False):=(z5i H.rs h0 hl).mono fun e w' z=>⟨z.1,H.call z.2⟩
   have g1:(64:Int)≤((X.rt 0).length:Int):=by omega
   have g2:((((x::q).length:Nat):Int) == 0)=false:=by simp only[List.length_cons];simp;omega
   have hT0:0<T:=by omega
   generalize hnr:(X.rt 0).length=nr at *
   obtain⟨nq,hnq⟩:∃ nq,nq=(x::q).length:=⟨_,rfl⟩
   rw[← hnq] at eq g2
   have HKr:Hid (∀ u,Pl13 B w0 u rh hb X fs (x::q) y rb W T va vq vr X.rt (x::q) L (fun _=>False)→u.cell? ⟨rb,0,none⟩=some (.slice ar nr cr)∧rb<u.heap.size):=fun u hu=>⟨by rw[(hu.lm.root hT0).2,er],hu.lm.rb_lt⟩
   clear H hO hr0 kr hnq hl
   go_enter Tryz.func28,Tryz.ntmps28
   go_wp2_with (go_at_call 17;refine hN.mono ?_;rintro e w1 ⟨rfl,h1⟩;obtain⟨d0,d1,d2,d3,d4,d5⟩:=h1.lm.cells;have dl:=h1.lm.y_lt;rw[eq] at d5;obtain⟨dr,drl⟩:=HKr.out w1 h1;have HE:Hid (Ed13 B w0 rh hb y rb W T (i+1) w1):=Ed13.same h1 HO.out;clear hN h1 HKr)
   go_ret
   exact⟨rfl,HE.out⟩
  ·have hN:Calls Tryz.prog 17 #[.pointer (some ⟨rh,0,none⟩)] w fun e w'=>e=.returned (.tuple #[.int .i64 x,.bool true])∧Pl13 B w0 w' rh hb (X.rooted 0 (X.rt 0++[x])) fs q y rb W T va vq vr X.rt (x::q) L (fun _=>False):=(zdN H.rs h0 (by omega)).mono fun e w' z=>⟨z.1,H.call z.2⟩
   have hT0:0<T:=by omega
   have g1:¬ (64:Int)≤((X.rt 0).length:Int):=by omega
   have g2:(((q.length:Int)+1) == 0)=false:=by simp;omega
   rw[List.length_cons] at eq
   have hql:q.length≤4000:=by have:=hO.few.1;rw[List.length_cons] at this;omega
   have HOk:Hid (Ok13 (X.rooted 0 (X.rt 0++[x])) fs q W T L (i+1)):=hO.rooted 0 (by rw[List.length_append,List.length_singleton];omega) (by simp)
   have HAll:Hid (∀ u,Pl13 B w0 u rh hb (X.rooted 0 (X.rt 0++[x])) fs q y rb W T va vq vr X.rt (x::q) L (fun _=>False)→∃ p,aq=some ⟨p,0,none⟩∧p<u.heap.size∧q.length+1≤cq∧u.cell? ⟨p,0,none⟩=some (.int .i64 x)∧(u.cell? ⟨rb,0,none⟩=some (.slice ar (X.rt 0).length cr)∧rb<u.heap.size) ∧
     ∀ a c,(a=⟨p,1,none⟩∨q=[])→∃ ao cap u3,(appC #[32,32] 32 #[.slice (some ⟨u.heap.size,0,none⟩) 0 0,.slice (some a) q.length c]).run Tryz.prog (u.alloc (.cells #[] 3))=.ok (.slice ao q.length cap) u3∧(u3.cell? ⟨y,5,none⟩=some vq∧y<u3.heap.size∧u3.frozen? ⟨y,5,none⟩=false)∧∃ u4,u4=u3.setCell ⟨y,5,none⟩ (.slice ao q.length cap)∧(u4.cell? ⟨y,4,none⟩=some (.slice (some ⟨rb,0,none⟩) T T)∧y<u4.heap.size∧u4.cell? ⟨rb,0,none⟩=some (.slice ar (X.rt 0).length cr)∧rb<u4.heap.size) ∧
      ∃ a5 c5 u5,(appC #[32,32] 32 #[.slice ar (X.rt 0).length cr,.slice (some ⟨u4.heap.size,0,none⟩) 1 1]).run Tryz.prog (u4.alloc (.cells #[.int .i64 x] 3)).drew=.ok (.slice a5 ((X.rt 0).length+1) c5) u5∧(u5.cell? ⟨rb,0,none⟩=some (.slice ar (X.rt 0).length cr)∧u5.cell? ⟨y,4,none⟩=some (.slice (some ⟨rb,0,none⟩) T T))∧(rb<u5.heap.size∧y<u5.heap.size)∧u5.frozen? ⟨rb,0,none⟩=false∧Ed13 B w0 rh hb y rb W T (i+1) (u5.setCell ⟨rb,0,none⟩ (.slice a5 ((X.rt 0).length+1) c5))):=fun u hu=>by
    have hqq:=hu.lm.que
    rw[eq] at hqq
    obtain⟨p,e1,hp,hcap,_,hcs⟩:=hqq.cells (by simp)
    refine⟨p,e1,hp.2,by rw[List.length_cons] at hcap;exact hcap.1,hcs 0 x rfl,⟨by rw[(hu.lm.root hT0).2,er],hu.lm.rb_lt⟩,fun a c ha=>?_⟩
    have bl:Below u.heap.size u (u.alloc (.cells #[] 3)):=(Below.refl _ _).alloc (Nat.le_refl _) _
    have hem:Ri (u.alloc (.cells #[] 3)) B (.slice (some ⟨u.heap.size,0,none⟩) 0 0) []:=Ri.empty u hu.rs.size
    obtain⟨ao,cap,u3,hrun,hR3,hg,hat⟩:=hem.addsAt (V:=q) (Nat.le_trans hu.rs.size bl.size) a c (fun j z hz=>by
     rcases ha with ha|ha
     ·subst ha
      rw[z1D]
      have:=hcs (j+1) z (by simpa using hz)
      rw[show 1+j=j+1 by omega]
      exact (z0q (a:=⟨p,j+1,none⟩) (bl.block p hp.2)).trans this
     ·rw[ha] at hz;simp at hz) (by simp;omega)
    simp only[List.length_nil,Nat.zero_add,List.nil_append] at hrun hR3 hat
    have hnew:∃ j,(Value.slice ao q.length cap).ownBlock=some j∧u.heap.size≤j:=by
     rcases hat with z|⟨j,z1,z2⟩
     ·exact⟨u.heap.size,z,Nat.le_refl _⟩
     ·exact⟨j,z1,Nat.le_trans bl.size z2⟩
    have hB3:Below u.heap.size u u3:=⟨hg.os.trans bl.os,hg.tape.trans bl.tape,hg.output.trans bl.output,Nat.le_trans bl.size hg.size,fun k hk=>(hg.block k (Nat.lt_of_lt_of_le hk bl.size) (fun z=>by simp[Value.ownBlock] at z;omega)).trans (bl.block k hk)⟩
    obtain⟨m1,hP4⟩:=hu.setq (Bt.of_below hB3) hR3 (.inr hnew)
    refine⟨ao,cap,u3,hrun,m1,_,rfl,?_⟩
    generalize hu4:u3.setCell ⟨y,5,none⟩ (.slice ao q.length cap)=u4 at *
    obtain⟨e0,e1',e2,e3,e4,e5⟩:=hP4.lm.cells
    refine⟨⟨e4,hP4.lm.y_lt,by rw[(hP4.lm.root hT0).2,er],hP4.lm.rb_lt⟩,?_⟩
    obtain⟨ao6,cap6,a5,c5,u5,e6,hrun5,_,⟨⟨k1,k2⟩,k3,k5⟩,hP5⟩:=hP4.pushr hT0 (by omega) x
    rw[er] at e6 k1
    simp only[Value.slice.injEq,true_and] at e6
    obtain⟨rfl,rfl⟩:=e6
    exact⟨a5,c5,u5,hrun5,⟨k1,k2⟩,k3,k5,⟨_,_,_,_,_,_,_,hP5,HOk.out⟩⟩
   generalize hnr:(X.rt 0).length=nr at *
   clear H hO hr0 kr hl
   go_enter Tryz.func28,Tryz.ntmps28
   go_wp2_with fail
   refine hN.mono ?_
   rintro e w1 ⟨rfl,h1⟩
   obtain⟨d0,d1,d2,d3,d4,d5⟩:=h1.lm.cells
   have dl:=h1.lm.y_lt
   rw[eq] at d5
   obtain⟨p,rfl,hpl,hcl,hc0,⟨dr,drl⟩,hA⟩:=HAll.out w1 h1
   have s0:¬ cq=0:=by omega
   obtain⟨nq,hnq⟩:∃ nq,nq=q.length:=⟨_,rfl⟩
   by_cases hc1:cq=1
   ·have hq0:q=[]:=List.eq_nil_of_length_eq_zero (by omega)
    obtain⟨ao,cap,u3,hrun,⟨m1,m2,m3⟩,u4,hu4,⟨m4,m5,m6,m7⟩,a5,c5,u5,hrun5,⟨k1,k2⟩,⟨k3,k4⟩,k5,hE⟩:=hA ⟨p,0,none⟩ 0 (.inr hq0)
    have HE:Hid (Ed13 B w0 rh hb y rb W T (i+1) (u5.setCell ⟨rb,0,none⟩ (.slice a5 (nr+1) c5))):=hE
    have hn0:nq=0:=by rw[hnq,hq0];rfl
    rw[← hnq,hn0] at hrun hu4 d5
    rw[← hnq,hn0] at eq
    rw[eq] at m1
    subst hc1
    clear hN h1 HAll hA hE hq0 hnq hn0
    go_wp2_with fail
    rw[← hu4]
    clear hu4
    go_region
    go_wp2
    go_ret
    exact⟨rfl,HE.out⟩
   ·obtain⟨ao,cap,u3,hrun,⟨m1,m2,m3⟩,u4,hu4,⟨m4,m5,m6,m7⟩,a5,c5,u5,hrun5,⟨k1,k2⟩,⟨k3,k4⟩,k5,hE⟩:=hA ⟨p,1,none⟩ (cq-1) (.inl rfl)
    have HE:Hid (Ed13 B w0 rh hb y rb W T (i+1) (u5.setCell ⟨rb,0,none⟩ (.slice a5 (nr+1) c5))):=hE
    rw[← hnq] at hrun hu4 d5 g2 hcl
    rw[← hnq] at eq
    rw[eq] at m1
    clear hN h1 HAll hA hE hnq
    go_wp2_with fail
    rw[← hu4]
    clear hu4
    go_region
    go_wp2
    go_ret
    exact⟨rfl,HE.out⟩
end
end Go.Proofs.YthkelaeemefnaaaGreat
namespace Go.Proofs.YthkelaeemefnaaaGreat
open Go.RowKit
section
variable {B:Nat}{w0 w:World}{rh hb:Nat}{X:Cm}{fs qs:List Int}{y rb W T i:Nat}{va vq:Value}{vr:Nat→Value}{R:Nat→List Int}{Q:List Int}{L:List Lr}{x:Nat}{K A C S P I O V:Int}{F:Bool}
theorem Pb13.cell (H:Pb13 B w0 w rh hb X fs qs y rb W T va vq vr R Q L x K A C S P I O V F) {k:Nat}{z:Lr}(hk:L[k]?=some z):∃ p cap az cz,va=.slice (some ⟨p,0,none⟩) L.length cap∧z.v=.slice az z.ws.length cz∧k<L.length∧p<w.heap.size∧w.cell? ⟨p,k*5+1,none⟩=some (.int .i64 z.kind)∧w.cell? ⟨p,k*5+2,none⟩=some (.slice az z.ws.length cz)∧∀ j v,z.ws[j]?=some v→∃ g,az=some ⟨g,0,none⟩∧g<w.heap.size∧w.cell? ⟨g,j,none⟩=some (.int .i64 v):=by
 obtain⟨ao,cap,e,hF⟩:=H.play.lm.form
 obtain⟨p,e1,hp,c0,_⟩:=hF k z hk
 have hw:=H.play.lm.word hk
 obtain⟨az,cz,e2⟩:=hw.form
 refine⟨p,cap,az,cz,by rw[e,e1],e2,(List.getElem?_eq_some_iff.1 hk).1,hp,c0.2.1,by rw[c0.2.2.1,e2],fun j v hv=>?_⟩
 rw[e2] at hw
 obtain⟨g,e3,hg,_,_,hc⟩:=hw.cells (by have:=(List.getElem?_eq_some_iff.1 hv).1;omega)
 exact⟨g,e3,hg.2,hc j v hv⟩
theorem Ok13.found (h:Ok13 X fs qs W T L i) (r:Int):(∃ (k:Nat) (z:Lr),L[k]?=some z∧z.ref=r∧FndR L r (k:Int))∨(FndR L r (-1)∧z0a X.S r=none):=by
 by_cases hr:r∈nums 0 X.S
 ·obtain⟨z,hz,e⟩:=h.ag.mem hr
  obtain⟨k,hk,e2⟩:=List.getElem_of_mem hz
  have hk2:L[k]?=some z:=by rw[List.getElem?_eq_getElem hk,e2]
  refine .inl ⟨k,z,hk2,e,.inl ⟨k,z,hk2,e,fun j u hj hu q=>?_,rfl⟩⟩
  have:=h.ag.inj hu hk2 (by rw[q,e])
  omega
 ·refine .inr ⟨.inr ⟨fun z hz e=>hr (by rw[← h.ag.refs];exact List.mem_map.2 ⟨z,hz,e⟩),rfl⟩,?_⟩
  cases hc:z0a X.S r with
  | none=>rfl
  | some c=>exact absurd (nums_cel.2 ⟨c,hc⟩) hr
theorem zci (H:Pl13 B w0 w rh hb X fs qs y rb W T va vq vr X.rt qs L (fun _=>False)) (hO:Ok13 X fs qs W T L i) (hi:i≤200) (K A C S P I O V:Int) (F:Bool):
  Calls Tryz.prog 27 #[.pointer (some ⟨y,0,none⟩),.agg #[.int .i64 K,.int .i64 A,.int .i64 C,.int .i64 S,.int .i64 P,.int .i64 I,.int .i64 O,.int .i64 V,.bool F]] w (z0p B w0 rh hb y rb W T (i+1)):=by
 have hx0:=Pb13.start H K A C S P I O V F
 have HO:Hid (Ok13 X fs qs W T L i):=hO
 have hm:X.m≤1999000:=by have:=hO.cost;omega
 have HPk:Hid (∀ u kd,Pb13 B w0 u rh hb X fs qs y rb W T va vq vr X.rt qs L w.heap.size K A C S P I O V F→Calls Tryz.prog 57 #[.pointer (some ⟨y,0,none⟩),.int .i64 P,.int .i64 kd] u (z0w u X qs L kd)):=fun u kd hu=>hO.pick hi hu P kd
 have HFi:Hid (∀ X' u r Rr,Pb13 B w0 u rh hb X' fs qs y rb W T va vq vr X.rt qs L w.heap.size K A C S P I O V F→FndR L r Rr→Calls Tryz.prog 30 #[.pointer (some ⟨y,0,none⟩),.int .i64 r] u fun e w'=>e=.returned (.int .i64 Rr)∧w'=u):=fun X' u r Rr hu hf=>z1N hu.play.lm (by have:=hO.few;omega) r Rr hf
 have HNo:Hid (∀ u r,Pb13 B w0 u rh hb X fs qs y rb W T va vq vr X.rt qs L w.heap.size K A C S P I O V F→(¬ (0≤A∧A<(T:Int))∨∀ cl,z0a X.S r=some cl→cl.kind≠4)→Calls Tryz.prog 22 #[.pointer (some ⟨rh,0,none⟩),.int .i64 A,.int .i64 r] u fun e w'=>e=.returned (.tuple #[.int .i64 0,.int .i64 1302])∧Pb13 B w0 w' rh hb X fs qs y rb W T va vq vr X.rt qs L w.heap.size K A C S P I O V F):=fun u r hu hr=>by
  by_cases hw:∀ cl,z0a X.S r=some cl→cl.kind≠4
  ·exact (z6z hu.play.rs hm A r hw).mono fun e w' q=>⟨q.1,hu.call q.2⟩
  ·obtain⟨cl,hc⟩:=Classical.not_forall.1 hw
   obtain⟨hc,h4⟩:=Classical.not_imp.1 hc
   exact (z6n hu.play.rs hm A r (by rw[hO.eT];exact hr.resolve_right hw) hc (Classical.not_not.1 h4)).mono fun e w' q=>⟨q.1,hu.call q.2⟩
 have HYes:Hid (∀ (u:World) (k:Nat) (z:Lr),Pb13 B w0 u rh hb X fs qs y rb W T va vq vr X.rt qs L w.heap.size K A C S P I O V F→(0≤A∧A<(T:Int))→L[k]?=some z→z.kind=4→∃ v,z.ws[0]?=some v∧Calls Tryz.prog 22 #[.pointer (some ⟨rh,0,none⟩),.int .i64 A,.int .i64 z.ref] u fun e w'=>e=.returned (.tuple #[.int .i64 v,.int .i64 0])∧∃ c',Pb13 B w0 w' rh hb (X.cost 1 c') fs qs y rb W T va vq vr X.rt qs L w.heap.size K A C S P I O V F):=fun u k z hu ha hz h4=>by
  obtain⟨k2,cl,e1,e2,e3,e4,e5⟩:=hO.ag.at_ (List.mem_of_getElem? hz)
  obtain⟨v,hv,_⟩:=hO.ag.weak z (List.mem_of_getElem? hz) h4
  have hn:0<cl.n:=by have:=(List.getElem?_eq_some_iff.1 hv).1;omega
  have hF:=e5 0 hn
  rw[hv] at hF
  have hF:v=X.F k2 0:=by simpa using hF
  refine⟨v,hv,(zcM hu.play.rs hm A (by rw[hO.eT];exact ha) e2 (by rw[e3];exact h4) _ e1).mono ?_⟩
  rintro e w' ⟨rfl,c',hT⟩
  exact⟨by rw[hF],c',hu.call hT⟩
 clear H hO hm
 go_enter Tryz.func27,Tryz.ntmps27
 have f0:=hx0.facts
 obtain⟨bI,hbI⟩:∃ bI,bits BinOp.and .i64 I 7=bI:=⟨_,rfl⟩
 have hW:(K == 12)=false∨((K == 12)=true∧(bI == 0)=false)∨((K == 12)=true∧(bI == 0)=true):=by
  cases (K == 12)<;>cases (bI == 0)<;>simp
 go_upto_region 2 with fail
 generalize World.alloc _ _=W1 at *
 rcases hW with hK1|⟨hK1,hK2⟩|⟨hK1,hK2⟩
 all_goals
  go_wp2_with (go_at_call 57;refine (HPk.out _ _ hx0).mono ?_;rintro e w3 ⟨r,rfl,hb3,hr⟩;have hx3:=hx0.below hb3;clear hb3 hr hx0 f0)
  clear HPk hbI
  have hx4:=hx3.below (z00 w3 1 _)
  have f3:=hx3.facts
  by_cases hin:0≤A∧A<(T:Int)
  ·have a0:decide (A<0)=false:=by simp;omega
   have a1:decide ((T:Int)≤A)=false:=by simp;omega
   rcases HO.out.found r with ⟨k,z,hz,hzr,hfn⟩|⟨hfn,hnone⟩
   ·by_cases h4:z.kind=4
    ·obtain⟨v,hv,hM⟩:=HYes.out _ k z hx4 hin hz h4
     rw[hzr] at hM
     clear HNo HYes
     go_region_held3 (fun w'=>w'.cell? ⟨y,0,none⟩=some (.pointer (some ⟨rh,0,none⟩))∧w'.cell? ⟨w.heap.size,1,none⟩=some (.int .i64 A)) (go_keep) ((go_at_call 22;refine hM.mono ?_;rintro e w5 ⟨rfl,c5,hx5⟩;have f5:=hx5.facts;clear hM))
     have hfi:=HFi.out _ _ r (k:Int) hx5 hfn
     have hx6:=fun n=>hx5.below (z00 w5 n _)
     obtain⟨p,cap,az,cz,e1,e2,e3,e4,e5,e6,e7⟩:=hx5.cell hz
     obtain⟨g,rfl,e8,e9⟩:=e7 0 v hv
     rw[h4] at e5
     have e10:0<z.ws.length:=(List.getElem?_eq_some_iff.1 hv).1
     have k0:decide ((k:Int)<0)=false:=by simp
     have k1:(k:Int)<(L.length:Int):=by omega
     have HE:Hid (∀ n,Ed13 B w0 rh hb y rb W T (i+1) (w5.drewN n)):=fun n=>Ed13.of (hx6 n).play (HO.out.costed (by omega) c5)
     rw[e1] at f5
     generalize L.length=nL at *
     generalize z.ws.length=nz at *
     have n0:(0:Int)<(nz:Int):=by omega
     clear hx3 hx4 hx5 hx6 f3 hz hzr hfn HFi hv e7
     go_wp2_with (go_at_call 30;refine hfi.mono ?_;rintro e w9 ⟨rfl,hw9⟩;replace hw9:=hw9.symm;subst hw9)
     go_quiet (fail)
     go_wp2_with (go_at_call 9;refine (z04 _ _).mono ?_;rintro e w9 ⟨rfl,hw9⟩;replace hw9:=hw9.symm;subst hw9)
     go_ret
     exact⟨rfl,HE.out _⟩
    ·have hM:=HNo.out _ r hx4 (.inr (fun cl hc=>by
      obtain⟨c2,q1,q2,_⟩:=HO.out.ag.cel z (List.mem_of_getElem? hz)
      rw[hzr,hc] at q1
      cases q1
      rw[q2];exact h4))
     clear HNo HYes
     go_region_held3 (fun w'=>w'.cell? ⟨y,0,none⟩=some (.pointer (some ⟨rh,0,none⟩))∧w'.cell? ⟨w.heap.size,1,none⟩=some (.int .i64 A)) (go_keep) ((go_at_call 22;refine hM.mono ?_;rintro e w5 ⟨rfl,hx5⟩;have f5:=hx5.facts;clear hM))
     have hfi:=HFi.out _ _ r (k:Int) hx5 hfn
     have hx6:=fun n=>hx5.below (z00 w5 n _)
     obtain⟨p,cap,az,cz,e1,e2,e3,e4,e5,e6,e7⟩:=hx5.cell hz
     have h4':(z.kind != 4)=true:=by simpa using h4
     have k0:decide ((k:Int)<0)=false:=by simp
     have k1:(k:Int)<(L.length:Int):=by omega
     have HE:Hid (∀ n,Ed13 B w0 rh hb y rb W T (i+1) (w5.drewN n)):=fun n=>Ed13.same (hx6 n).play HO.out
     rw[e1] at f5
     generalize z.kind=zk at *
     generalize L.length=nL at *
     clear hx3 hx4 hx5 hx6 f3 hz hzr hfn HFi e7 h4
     go_wp2_with (go_at_call 30;refine hfi.mono ?_;rintro e w9 ⟨rfl,hw9⟩;replace hw9:=hw9.symm;subst hw9)
     go_quiet (fail)
     go_wp2_with (go_at_call 9;refine (z04 _ _).mono ?_;rintro e w9 ⟨rfl,hw9⟩;replace hw9:=hw9.symm;subst hw9)
     go_ret
     exact⟨rfl,HE.out _⟩
   ·have hM:=HNo.out _ r hx4 (.inr (fun cl hc=>by rw[hnone] at hc;simp at hc))
    clear HNo HYes
    go_region_held3 (fun w'=>w'.cell? ⟨y,0,none⟩=some (.pointer (some ⟨rh,0,none⟩))∧w'.cell? ⟨w.heap.size,1,none⟩=some (.int .i64 A)) (go_keep) ((go_at_call 22;refine hM.mono ?_;rintro e w5 ⟨rfl,hx5⟩;have f5:=hx5.facts;clear hM))
    have hfi:=HFi.out _ _ r (-1) hx5 hfn
    have hx6:=fun n=>hx5.below (z00 w5 n _)
    have HE:Hid (∀ n,Ed13 B w0 rh hb y rb W T (i+1) (w5.drewN n)):=fun n=>Ed13.same (hx6 n).play HO.out
    clear hx3 hx4 hx5 hx6 f3 hfn HFi hnone
    go_wp2_with (go_at_call 30;refine hfi.mono ?_;rintro e w9 ⟨rfl,hw9⟩;replace hw9:=hw9.symm;subst hw9)
    go_quiet (fail)
    go_wp2_with (go_at_call 9;refine (z04 _ _).mono ?_;rintro e w9 ⟨rfl,hw9⟩;replace hw9:=hw9.symm;subst hw9)
    go_ret
    exact⟨rfl,HE.out _⟩
  ·have hM:=HNo.out _ r hx4 (.inl hin)
   obtain⟨Rr,hfn⟩:=z4H r L
   clear HNo HYes
   go_region_held3 (fun w'=>w'.cell? ⟨y,0,none⟩=some (.pointer (some ⟨rh,0,none⟩))∧w'.cell? ⟨w.heap.size,1,none⟩=some (.int .i64 A)) (go_keep) ((go_at_call 22;refine hM.mono ?_;rintro e w5 ⟨rfl,hx5⟩;have f5:=hx5.facts;clear hM))
   have hfi:=HFi.out _ _ r Rr hx5 hfn
   have hx6:=fun n=>hx5.below (z00 w5 n _)
   have HE:Hid (∀ n,Ed13 B w0 rh hb y rb W T (i+1) (w5.drewN n)):=fun n=>Ed13.same (hx6 n).play HO.out
   clear hx3 hx4 hx5 hx6 f3 hfn HFi
   by_cases hA:A<0
   ·have a0:decide (A<0)=true:=by simpa using hA
    clear hin hA
    go_wp2_with (go_at_call 30;refine hfi.mono ?_;rintro e w9 ⟨rfl,hw9⟩;replace hw9:=hw9.symm;subst hw9)
    go_quiet (fail)
    go_wp2_with (go_at_call 9;refine (z04 _ _).mono ?_;rintro e w9 ⟨rfl,hw9⟩;replace hw9:=hw9.symm;subst hw9)
    go_ret
    exact⟨rfl,HE.out _⟩
   ·have a0:decide (A<0)=false:=by simp;omega
    have a1:decide ((T:Int)≤A)=true:=by simp;omega
    clear hin hA
    go_wp2_with (go_at_call 30;refine hfi.mono ?_;rintro e w9 ⟨rfl,hw9⟩;replace hw9:=hw9.symm;subst hw9)
    go_quiet (fail)
    go_wp2_with (go_at_call 9;refine (z04 _ _).mono ?_;rintro e w9 ⟨rfl,hw9⟩;replace hw9:=hw9.symm;subst hw9)
    go_ret
    exact⟨rfl,HE.out _⟩
end
end Go.Proofs.YthkelaeemefnaaaGreat
namespace Go.Proofs.YthkelaeemefnaaaGreat
open Go.RowKit
section
variable {B:Nat}{w0 w:World}{rh hb:Nat}{X:Cm}{fs qs:List Int}{y rb W T i:Nat}{va vq:Value}{vr:Nat→Value}{L:List Lr}
theorem zd4 (h:Ed13 B w0 rh hb y rb W T i w) (hi:i≤201):
  Calls Tryz.prog 11 #[.pointer (some ⟨y,0,none⟩)] w fun e w'=>e=.returned (.bool true)∧Ed13 B w0 rh hb y rb W T i w':=by
 obtain⟨X,fs,qs,va,vq,vr,L,H,hO⟩:=h
 have hm:X.m≤1999000:=by have:=hO.cost;omega
 obtain⟨c0,_,_,c3,_,_⟩:=H.lm.cells
 have hyl:=H.lm.y_lt
 have hlen:(nums 0 X.S).length=L.length:=by rw[← hO.ag.refs,List.length_map]
 obtain⟨ao,cap,eva,_⟩:=H.lm.form
 have hR:Calls Tryz.prog 18 #[.pointer (some ⟨rh,0,none⟩)] w fun e w1=>∃ ar cr,e=.returned (.slice ar L.length cr)∧(w1.cell? ⟨y,3,none⟩=some (.slice ao L.length cap)∧y<w1.heap.size)∧Hid (Ri w1 w.heap.size (.slice ar L.length cr) (nums 0 X.S)∧Pl13 B w0 w1 rh hb X fs qs y rb W T va vq vr X.rt qs L (fun _=>False)):=(zex H.rs hm).mono fun e w1 q=>by
  obtain⟨v,rfl,hr,hb1,hT⟩:=q
  obtain⟨ar,cr,e⟩:=hr.form
  rw[hlen] at e
  subst e
  have H1:=H.below hb1
  exact⟨ar,cr,rfl,⟨by rw[H1.lm.cells.2.2.2.1,eva],H1.lm.y_lt⟩,hr,H1⟩
 have HO:Hid (Ok13 X fs qs W T L i):=hO
 have HN:Hid ((nums 0 X.S).length=L.length∧L.length≤1000):=⟨hlen,by have:=hO.few;omega⟩
 have hl1:L.length≤1000:=by have:=hO.few;omega
 obtain⟨n,hn⟩:∃ n,n=L.length:=⟨_,rfl⟩
 rw[← hn] at hR hl1 HN
 clear hO H hlen eva c3 hm hn
 go_enter Tryz.func11,Tryz.ntmps11
 go_wp2_with (go_at_call 18;refine hR.mono ?_;rintro e w1 ⟨ar,cr,rfl,⟨d3,dl⟩,H1⟩;clear hR)
 go_loopg [4] 1001 (fun kx s4 wr=>∃ j:Nat,s4=.int .i64 j∧j≤n∧n-j≤kx∧Hid (Below w1.heap.size w1 wr))
 case atStart=>exact⟨0,rfl,by omega,by omega,Below.refl _ _⟩
 case round =>
  obtain⟨j,rfl,hj,hkx,HB⟩:=hrel
  by_cases hjn:j<n
  ·have g1:(j:Int)<(n:Int):=by omega
   have hr:=H1.out.1.below HB.out
   have H2:=H1.out.2.below HB.out
   have hlt:j<(nums 0 X.S).length:=by rw[HN.out.1];exact hjn
   obtain⟨rj,hrj⟩:∃ rj,(nums 0 X.S)[j]?=some rj:=⟨_,List.getElem?_eq_getElem hlt⟩
   obtain⟨p,hp0,hp,_,_,hcs⟩:=hr.cells (by omega)
   subst hp0
   have cj:=hcs j rj hrj
   have hpl:=hp.2
   have hin:rj∈nums 0 X.S:=List.mem_of_getElem? hrj
   obtain⟨z,hz,hzr⟩:=HO.out.ag.mem hin
   obtain⟨k,hk,e2⟩:=List.getElem_of_mem hz
   have hk2:L[k]?=some z:=by rw[List.getElem?_eq_getElem hk,e2]
   have hfn:FndR L rj (k:Int):=.inl ⟨k,z,hk2,hzr,fun a u ha hu q=>by have:=HO.out.ag.inj hu hk2 (by rw[q,hzr]);omega,rfl⟩
   have hfi:∀ q,Calls Tryz.prog 30 #[.pointer (some ⟨y,0,none⟩),.int .i64 rj] (wr.drewN q) fun e w'=>e=.returned (.int .i64 (k:Int))∧w'=wr.drewN q:=fun q=>z1N (H2.below (z00 wr q _)).lm (by have:=HO.out.few;omega) rj k hfn
   have k0:decide ((k:Int)<0)=false:=by simp
   have HB2:Hid (∀ q,Below w1.heap.size w1 (wr.drewN q)):=fun q=>HB.out.trans ((z00 wr q _).mono HB.out.size)
   cases j with
   | zero =>
    clear hr H2 hlt hrj hcs hp hin hz hzr hk e2 hk2 hfn HB
    go_wp2
    go_quiet ((go_at_call 30;exact Calls.quiet_of_same (hfi _)))
    go_wp2
    go_roundg (n-1)
    case measure=>omega
    case rel=>exact⟨1,by go_num,by omega,by omega,HB2.out _⟩
   | succ m =>
    have hlt2:m<(nums 0 X.S).length:=by omega
    obtain⟨rm,hrm⟩:∃ rm,(nums 0 X.S)[m]?=some rm:=⟨_,List.getElem?_eq_getElem hlt2⟩
    have cm:=hcs m rm hrm
    have hrise:=List.pairwise_iff_getElem.1 (z0r 0 X.S) m (m+1) hlt2 hlt (by omega)
    rw[List.getElem?_eq_getElem hlt2] at hrm
    rw[List.getElem?_eq_getElem hlt] at hrj
    simp only[Option.some.injEq] at hrm hrj
    rw[hrm,hrj] at hrise
    have g2:decide (rj≤rm)=false:=by simp;omega
    have g3:(m:Int)+1<(n:Int):=by omega
    have g4:(m:Int)<(n:Int):=by omega
    have g5:decide ((0:Int)<(m:Int)+1)=true:=decide_eq_true (by omega)
    clear hr H2 hlt hlt2 hrj hrm hrise hcs hp hin hz hzr hk e2 hk2 hfn HB
    go_wp2
    go_quiet ((go_at_call 30;exact Calls.quiet_of_same (hfi _)))
    go_wp2
    go_roundg (n-(m+1+1))
    case measure=>omega
    case rel=>exact⟨m+1+1,by go_num,by omega,by omega,HB2.out _⟩
  ·have g1:¬ (j:Int)<(n:Int):=by omega
   have HE:Hid (Ed13 B w0 rh hb y rb W T i wr):=⟨X,fs,qs,va,vq,vr,L,H1.out.2.below HB.out,HO.out⟩
   clear HB
   go_wp2
   go_ret
   exact⟨rfl,HE.out⟩
end
end Go.Proofs.YthkelaeemefnaaaGreat
