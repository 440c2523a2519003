import Derived.Test.YthkelaeemefnaaaGreatMHMathqz
set_option maxHeartbeats 1000000
namespace Go.Proofs.YthkelaeemefnaaaGreat
open Go.RowKit
theorem z0U (n:Int) (hn:-1000000≤n∧n≤1000000) (w:World):Calls Tryz.prog 56 #[.int .i64 n] w fun e w'=>e=.returned (.int .i64 (n+16))∧w'=w:=by
 go_enter Tryz.func56,Tryz.ntmps56
 go_wp2
 go_ret
 exact⟨rfl,rfl⟩
theorem z6j (W:Nat) (hW:W≤100000) (w:World):Calls Tryz.prog 91 #[.int .i64 W] w fun e w'=>e=.returned (.int .i64 (z06 W:Nat))∧w'=w:=by
 go_enter Tryz.func91,Tryz.ntmps91
 go_wp2
 go_ret
 exact⟨congrArg (fun x=>Ending.returned (Value.int .i64 x)) (by unfold z06;omega),rfl⟩
theorem z5R (c:Nat) (hc:c≤20000) (w:World):Calls Tryz.prog 148 #[.int .i64 c] w fun e w'=>e=.returned (.int .i64 ((9*c/74:Nat):Int))∧w'=w:=by
 go_enter Tryz.func148,Tryz.ntmps148
 go_wp2
 go_loopg [3,5] 66 (fun kx s3 s5 wr=>∃ (t j:Nat),s3=.int .i64 t∧s5=.int .i64 j∧j≤65∧65-j≤kx∧Hid (t≤9*c/74∧(58<j→t=9*c/74))∧wr=w)
 case atStart=>exact⟨0,0,rfl,rfl,by omega,by omega,⟨Nat.zero_le _,by omega⟩,rfl⟩
 case round =>
  obtain⟨t,j,rfl,rfl,hj,hk,HT,rfl⟩:=hrel
  by_cases hlt:j<65
  ·have hl:(j:Int)<65:=by omega
   have hF:=z1n j (by omega)
   have hC:=z0U (j:Int) (by omega)
   have f9:=z13 (n:=j) (by omega)
   have hp:=zdF c (n:=j) (by omega)
   have HX:Hid (∀ x,x=c*frg j/(j+16)→x≤9*c/74∧(j=58→x=9*c/74)):=fun x hx=>by
    subst hx
    refine⟨hp,fun e=>?_⟩
    subst e
    show c*frg 58/74=_
    rw[show frg 58=9 by decide,Nat.mul_comm]
   clear hp
   obtain⟨f,hf⟩:∃ f,f=frg j:=⟨_,rfl⟩
   rw[← hf] at hF f9 HX
   clear hf
   have m1:(c:Int)*(f:Int)≤180000:=by
    have:c*f≤20000*9:=Nat.mul_le_mul hc f9
    rw[← Int.natCast_mul];omega
   have m0:0≤(c:Int)*(f:Int):=by rw[← Int.natCast_mul];omega
   have hq:((c:Int)*(f:Int)).tdiv ((j:Int)+16)=((c*f/(j+16):Nat):Int):=by
    rw[Int.tdiv_eq_ediv_of_nonneg m0,← Int.natCast_mul];rfl
   obtain⟨x,hx⟩:∃ x,x=c*f/(j+16):=⟨_,rfl⟩
   rw[← hx] at hq
   have H2:=HX.out x hx
   have hb:9*c/74≤20000:=by omega
   have Hx:Hid (x≤9*c/74∧(j=58→x=9*c/74)):=H2
   have hx2:x≤20000:=by omega
   have ht2:t≤20000:=by have:=HT.out.1;omega
   clear hx H2 HX
   by_cases hm:t<x
   ·skip
    go_wp2_with (first
     | (go_at_call 159;refine (hF _).mono ?_;rintro e w9 ⟨rfl,hw9⟩;replace hw9:=hw9.symm;subst hw9)
     | (go_at_call 56;refine (hC _).mono ?_;rintro e w9 ⟨rfl,hw9⟩;replace hw9:=hw9.symm;subst hw9))
    go_roundg (65-(j+1))
    case measure=>omega
    case rel =>
     refine⟨x,j+1,by go_num,by go_num,by omega,by omega,⟨Hx.out.1,fun e=>?_⟩,rfl⟩
     have h1:=Hx.out
     have h2:=HT.out
     by_cases e58:j=58
     ·exact h1.2 e58
     ·have:=h2.2 (by omega);omega
   ·skip
    go_wp2_with (first
     | (go_at_call 159;refine (hF _).mono ?_;rintro e w9 ⟨rfl,hw9⟩;replace hw9:=hw9.symm;subst hw9)
     | (go_at_call 56;refine (hC _).mono ?_;rintro e w9 ⟨rfl,hw9⟩;replace hw9:=hw9.symm;subst hw9))
    go_roundg (65-(j+1))
    case measure=>omega
    case rel =>
     refine⟨t,j+1,by go_num,by go_num,by omega,by omega,⟨HT.out.1,fun e=>?_⟩,rfl⟩
     have h1:=Hx.out
     have h2:=HT.out
     by_cases e58:j=58
     ·have:=h1.2 e58;omega
     ·exact h2.2 (by omega)
  ·have hl:¬ (j:Int)<65:=by omega
   have e:Hid (t=9*c/74):=HT.out.2 (by omega)
   go_wp2
   go_ret
   refine⟨?_,rfl⟩
   rw[e.out];rfl
theorem z3E (R:Nat) (hR:R≤20000) (w:World):Calls Tryz.prog 130 #[.int .i64 R] w fun e w'=>∃ N:Nat,e=.returned (.int .i64 N)∧w'=w∧74*N≤9*R+205∧∀ n,n≤64→n+16≤R→9*(R-(n+16))/74+(1+(n+5)/6)≤N:=by
 go_enter Tryz.func130,Tryz.ntmps130
 go_wp2
 go_loopg [3,6] 66 (fun kx s3 s6 wr=>∃ (t j:Nat),s3=.int .i64 t∧s6=.int .i64 j∧j≤65∧65-j≤kx∧Hid (74*t≤9*R+205∧∀ n,n<j→n+16≤R→9*(R-(n+16))/74+(1+(n+5)/6)≤t)∧wr=w)
 case atStart=>exact⟨0,0,rfl,rfl,by omega,by omega,⟨by omega,by omega⟩,rfl⟩
 case round =>
  obtain⟨t,j,rfl,rfl,hj,hk,HT,rfl⟩:=hrel
  by_cases hlt:j<65
  ·have hl:(j:Int)<65:=by omega
   have hC:=z0U (j:Int) (by omega)
   have ht2:t≤20000:=by have:=HT.out.1;omega
   by_cases hge:j+16≤R
   ·obtain⟨c,hc⟩:∃ c,R=c+(j+16):=⟨R-(j+16),by omega⟩
    have e1:(R:Int)-((j:Int)+16)=(c:Int):=by omega
    have g1:(0:Int)≤(c:Int):=by omega
    have hM:=z5R c (by omega)
    have hN:=z1R j (by omega)
    obtain⟨x,hx⟩:∃ x,x=9*c/74:=⟨_,rfl⟩
    obtain⟨y,hy⟩:∃ y,y=1+(j+5)/6:=⟨_,rfl⟩
    rw[← hx] at hM
    rw[← hy] at hN
    have Hx:Hid (x=9*(R-(j+16))/74∧y=1+(j+5)/6∧74*(x+y)≤9*R+205):=⟨by rw[hx,show R-(j+16)=c by omega],hy,by omega⟩
    have b1:x+y≤20000:=by have:=Hx.out.2.2;omega
    clear hx hy hc
    have mk:∀ t',(t≤t')→(x+y≤t')→(t'=t∨t'=x+y)→Hid (74*t'≤9*R+205∧∀ n,n<j+1→n+16≤R→9*(R-(n+16))/74+(1+(n+5)/6)≤t'):=fun t' l1 l2 l3=>by
     have h1:=Hx.out
     have h2:=HT.out
     refine⟨by rcases l3 with r|r<;>(rw[r];first|exact h2.1|exact h1.2.2),fun n hn hR=>?_⟩
     by_cases e:n=j
     ·subst e;rw[← h1.1,← h1.2.1];exact l2
     ·exact Nat.le_trans (h2.2 n (by omega) hR) l1
    have Mk:Hid (∀ t',(t≤t')→(x+y≤t')→(t'=t∨t'=x+y)→Hid (74*t'≤9*R+205∧∀ n,n<j+1→n+16≤R→9*(R-(n+16))/74+(1+(n+5)/6)≤t')):=mk
    clear mk
    by_cases hm:(t:Int)<(x:Int)+(y:Int)
    ·skip
     go_wp2_with (first
      | (go_at_call 56;refine (hC _).mono ?_;rintro e w9 ⟨rfl,hw9⟩;replace hw9:=hw9.symm;subst hw9)
      | (go_at_call 148;refine (hM _).mono ?_;rintro e w9 ⟨rfl,hw9⟩;replace hw9:=hw9.symm;subst hw9)
      | (go_at_call 149;refine (hN _).mono ?_;rintro e w9 ⟨rfl,hw9⟩;replace hw9:=hw9.symm;subst hw9))
     go_roundg (65-(j+1))
     case measure=>omega
     case rel=>exact⟨x+y,j+1,by go_num,by go_num,by omega,by omega,Mk.out (x+y) (by omega) (Nat.le_refl _) (.inr rfl),rfl⟩
    ·skip
     go_wp2_with (first
      | (go_at_call 56;refine (hC _).mono ?_;rintro e w9 ⟨rfl,hw9⟩;replace hw9:=hw9.symm;subst hw9)
      | (go_at_call 148;refine (hM _).mono ?_;rintro e w9 ⟨rfl,hw9⟩;replace hw9:=hw9.symm;subst hw9)
      | (go_at_call 149;refine (hN _).mono ?_;rintro e w9 ⟨rfl,hw9⟩;replace hw9:=hw9.symm;subst hw9))
     go_roundg (65-(j+1))
     case measure=>omega
     case rel=>exact⟨t,j+1,by go_num,by go_num,by omega,by omega,Mk.out t (Nat.le_refl _) (by omega) (.inl rfl),rfl⟩
   ·have g1:decide ((0:Int)≤(R:Int)-((j:Int)+16))=false:=by simp;omega
    go_wp2_with (first
     | (go_at_call 56;refine (hC _).mono ?_;rintro e w9 ⟨rfl,hw9⟩;replace hw9:=hw9.symm;subst hw9))
    go_roundg (65-(j+1))
    case measure=>omega
    case rel =>
     refine⟨t,j+1,by go_num,by go_num,by omega,by omega,⟨HT.out.1,fun n hn hR=>?_⟩,rfl⟩
     by_cases e:n=j
     ·omega
     ·exact HT.out.2 n (by omega) hR
  ·have hl:¬ (j:Int)<65:=by omega
   go_wp2
   go_ret
   exact⟨t,rfl,rfl,HT.out.1,fun n hn hR=>HT.out.2 n (by omega) hR⟩
def z4M (n:Nat):Nat:=n/1000*2008+(if n%1000=0 then 0 else 2*(n%1000)+8)
theorem zcE {n:Nat}(h:n≤2000):z4M n≤2*n+16:=by unfold z4M;split<;>omega
theorem zbr {n:Nat}(h1:1≤n) (h2:n≤999):z4M n=2*n+8:=by unfold z4M;split<;>omega
theorem z6W (n:Nat) (h2:n≤2000) (w:World):Calls Tryz.prog 152 #[.int .i64 n] w fun e w'=>e=.returned (.int .i64 (z4M n:Nat))∧w'=w:=by
 have e1:(n:Int).tdiv 1000=((n/1000:Nat):Int):=by rw[Int.tdiv_eq_ediv_of_nonneg (by omega)];rfl
 have e2:(n:Int).tmod 1000=((n%1000:Nat):Int):=by rw[Int.tmod_eq_emod_of_nonneg (by omega)];rfl
 have e3:(n:Int)%1000=((n%1000:Nat):Int):=rfl
 have e4:(n:Int)/1000=((n/1000:Nat):Int):=rfl
 have hr:n%1000<1000:=Nat.mod_lt _ (by omega)
 have hd:n/1000≤2:=by omega
 have HL:Hid (z4M n=n/1000*2008+(if n%1000=0 then 0 else 2*(n%1000)+8)):=(show _=_ by rfl)
 generalize z4M n=L at *
 generalize n/1000=d at *
 generalize n%1000=r at *
 have h0:=fun w=>z4z 1000 w (by omega) (by omega)
 by_cases r0:r=0
 ·have r1:decide ((0:Int)<(r:Int))=false:=by simp;omega
  go_enter Tryz.func152,Tryz.ntmps152
  go_wp2_with (go_at_call 165;refine (h0 _).mono ?_;rintro e w9 ⟨rfl,hw9⟩;replace hw9:=hw9.symm;subst hw9)
  go_ret
  have:=HL.out
  rw[if_pos r0] at this
  exact⟨congrArg (fun x=>Ending.returned (Value.int .i64 x)) (by omega),rfl⟩
 ·have r1:(0:Int)<(r:Int):=by omega
  go_enter Tryz.func152,Tryz.ntmps152
  go_wp2_with (go_at_call 165;refine (z4z _ _ (by omega) (by omega)).mono ?_;rintro e w9 ⟨rfl,hw9⟩;replace hw9:=hw9.symm;subst hw9)
  go_ret
  have:=HL.out
  rw[if_neg r0] at this
  exact⟨congrArg (fun x=>Ending.returned (Value.int .i64 x)) (by omega),rfl⟩
theorem z6X (n:Nat) (h2:n≤2000) (w:World):Calls Tryz.prog 135 #[.int .i64 n] w fun e w'=>e=.returned (.int .i64 ((9*n+z4M n:Nat):Int))∧w'=w:=by
 have hl:=zcE h2
 have hL:=z6W n h2
 generalize z4M n=L at *
 go_enter Tryz.func135,Tryz.ntmps135
 go_wp2_with (go_at_call 152;refine (hL _).mono ?_;rintro e w9 ⟨rfl,hw9⟩;replace hw9:=hw9.symm;subst hw9)
 go_ret
 exact⟨congrArg (fun x=>Ending.returned (Value.int .i64 x)) (by omega),rfl⟩
end Go.Proofs.YthkelaeemefnaaaGreat
