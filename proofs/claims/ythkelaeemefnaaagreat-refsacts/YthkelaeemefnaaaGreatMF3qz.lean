import Derived.Test.YthkelaeemefnaaaGreatMF2qz
set_option maxRecDepth 20000
set_option maxHeartbeats 2000000
namespace Go.Proofs.YthkelaeemefnaaaGreat
open Go.RowKit
theorem zdE {w:World}{b bw bs W G:Nat}{ws cs:Nat→Int}(h:Ar w b bw bs W G ws cs) (x y:Int) (base n:Nat) (hx:x=base) (hy:y=n) (n1:1≤n) (n2:n≤1000) (h1:base+(14*n+64)≤W) (hW:W≤65536) (hG:G≤12):
  Calls Tryz.prog 132 #[.pointer (some ⟨b,0,none⟩),.int .i64 x,.int .i64 y] w fun e w'=>∃ p P,e=.returned (.tuple #[.pointer (some ⟨p,0,none⟩),.int .i64 0])∧Pl w' P p b W base n G cs 0 (up n 1) (zap ws (base+8*n) n)∧Bt (fun j=>j=bw∨j=bs) w w'∧∀ j,P j→j=b∨j=bw∨j=bs∨w.heap.size≤j:=by
 subst hx hy
 have hw:=z3j h
 have hl:=h.lts
 have hb:=h.lt
 have a1:decide ((n:Int)<1)=false:=by simp;omega
 have a2:decide (2000<(n:Int))=false:=by simp;omega
 have a3:decide ((base:Int)<0)=false:=by simp
 have a4:decide ((W:Int)-(14*(n:Int)+64)<(base:Int))=false:=by simp;omega
 have ht:=z6P h ((base:Int)+8*n) n (base+8*n) n (by omega) rfl (by omega) hW
 go_enter Tryz.func132,Tryz.ntmps132
 go_wp2_with (first
  | (go_at_call 131;refine hw.mono ?_;rintro e w1 ⟨rfl,rfl⟩)
  | (go_at_call 150;refine ht.mono ?_;rintro e w2 ⟨bc,rfl,l2,q2,hA2,hB2⟩)
  | (go_at_call 151;refine (z8x hA2 ((base:Int)+8*n+n) n (base+9*n) n (by omega) rfl n1 n2 (by omega) hW hG).mono ?_;rintro e w3 ⟨Q,s,pl,k,rfl,hL⟩))
 go_ret2
 obtain⟨hG3,hB3,hQ3,hc3,l3,hq3⟩:=hL
 have s2:=hB2.size
 have s3:=hB3.size
 have l4:=z02 q2
 refine⟨w3.heap.size,fun j=>Q j∨j=w3.heap.size∨j=bc∨j=pl,rfl,⟨Q,s,bc,pl,k,hG3.alloc _,?_,?_,z29 hc3 _,fun j hj=>.inl hj,⟨.inr (.inl rfl),.inr (.inr (.inl rfl)),.inr (.inr (.inr rfl))⟩,⟨fun q=>?_,fun q=>?_,hq3⟩,?_,h1,hW,n1,n2,?_⟩,?_,?_⟩
 ·simpa using heap_alloc_new w3 _
 ·exact z01 ((hB3.block bc l4 (by omega)).trans q2) _
 ·have:=hG3.lt _ q;omega
 ·rcases hQ3 bc q with e|e|e|e<;>omega
 ·have hpl:pl<w3.heap.size:=z6U hc3
  rintro j (q|q|q|q)
  ·have:=hG3.lt j q;simp;omega
  ·simp;omega
  ·simp;omega
  ·subst q;simp;omega
 ·intro f hf
  rw[zdB _ (by omega) (by omega)]
  exact⟨by omega,by omega,fun _=>up_mem.2 (by omega),fun _=>rfl⟩
 ·exact ((Bt.of_but hB2 (.inl rfl) (.inr rfl)).trans hB3).alloc _
 ·rintro j (q|q|q|q)
  ·rcases hQ3 j q with e|e|e|e
   ·exact .inl e
   ·exact .inr (.inl e)
   ·exact .inr (.inr (.inl e))
   ·exact .inr (.inr (.inr (by omega)))
  ·exact .inr (.inr (.inr (by omega)))
  ·exact .inr (.inr (.inr (by omega)))
  ·exact .inr (.inr (.inr (by omega)))
theorem Pl.below {w':World}{w:World}{P:Nat→Prop}{p b W base n G:Nat}{cs:Nat→Int}{T:Int}{xs:List Int}{ws:Nat→Int}(h:Pl w P p b W base n G cs T xs ws) (e:Below w.heap.size w w'):Pl w' P p b W base n G cs T xs ws:=by
 obtain⟨Q,s,bc,pl,k,h⟩:=h
 exact⟨Q,s,bc,pl,k,h.below e⟩
theorem Pl.keep {w':World}{w:World}{P:Nat→Prop}{p b W base n G:Nat}{cs:Nat→Int}{T:Int}{xs:List Int}{ws:Nat→Int}(h:Pl w P p b W base n G cs T xs ws) (e:∀ j,P j→w'.heap[j]?=w.heap[j]?) (hs:w.heap.size≤w'.heap.size):Pl w' P p b W base n G cs T xs ws:=by
 obtain⟨Q,s,bc,pl,k,h⟩:=h
 exact⟨Q,s,bc,pl,k,h.keep e hs⟩
theorem Pl.lt {w:World}{P:Nat→Prop}{p b W base n G:Nat}{cs:Nat→Int}{T:Int}{xs:List Int}{ws:Nat→Int}(h:Pl w P p b W base n G cs T xs ws):∀ j,P j→j<w.heap.size:=by
 obtain⟨Q,s,bc,pl,k,h⟩:=h
 exact h.lt
theorem Pl.facts {w:World}{P:Nat→Prop}{p b W base n G:Nat}{cs:Nat→Int}{T:Int}{xs:List Int}{ws:Nat→Int}(h:Pl w P p b W base n G cs T xs ws):base+(14*n+64)≤W∧W≤65536∧1≤n∧n≤1000∧(∀ f,f<n→0≤ws (base+8*n+f)∧ws (base+8*n+f)≤3∧(ws (base+8*n+f)=0↔(f:Int)+1∈xs))∧xs.length≤n∧xs.Nodup∧(∀ x,x∈xs→1≤x∧x≤n):=by
 obtain⟨Q,s,bc,pl,k,h⟩:=h
 exact⟨h.fit,h.big,h.n1,h.n2,h.col,h.good.range.2.2.1,h.good.range.2.2.2.1,h.good.range.1⟩
theorem Turn.pl {w w':World}{P:Nat→Prop}{p b W base n G:Nat}{cs':Nat→Int}{T':Int}{xs':List Int}{ws':Nat→Int}{B:Nat}{w0:World}(h:Turn w P p b W base n G cs' T' xs' ws' w') (hb:Below B w0 w) (hB:B≤w.heap.size) (hP:∀ j,P j→B≤j):
  ∃ P',Pl w' P' p b W base n G cs' T' xs' ws'∧Below B w0 w'∧B≤w'.heap.size∧∀ j,P' j→B≤j:=by
 obtain⟨P',h1,h2,h3⟩:=h
 exact⟨P',h1,Bt.under hb hB hP h2,Nat.le_trans hB h2.size,fun j hj=>(h3 j hj).elim (hP j) (fun q=>by omega)⟩
def cnt (C:Nat→Int):Nat→Nat
 | 0=>0
 | i+1=>cnt C i+(if C i=0 then 0 else 1)
theorem zc6 (C:Nat→Int) {i j:Nat}(h:i≤j):cnt C i≤cnt C j:=by
 induction j with
 | zero=>rw[Nat.le_zero.1 h];exact Nat.le_refl _
 | succ j ih =>
  by_cases e:i=j+1
  ·subst e;exact Nat.le_refl _
  ·have:=ih (by omega);simp only[cnt];omega
theorem zf1 (C:Nat→Int) {i j:Nat}(h:i<j) (hc:C i≠0):cnt C i<cnt C j:=by
 have:=zc6 C (show i+1≤j by omega)
 simp only[cnt,if_neg hc] at this
 omega
def Lists (C:Nat→Int) (F:Nat→Int) (i:Nat):Prop:=(∀ f,f<i→C f≠0→F (cnt C f)=f)∧∀ j,j<cnt C i→∃ f,f<i∧C f≠0∧F j=f
theorem Lists.skip {C F:Nat→Int}{i:Nat}(h:Lists C F i) (hc:C i=0):Lists C F (i+1):=by
 refine⟨fun f hf hu=>?_,fun j hj=>?_⟩
 ·by_cases e:f=i
  ·subst e;exact absurd hc hu
  ·exact h.1 f (by omega) hu
 ·simp only[cnt,if_pos hc,Nat.add_zero] at hj
  obtain⟨f,h1,h2⟩:=h.2 j hj
  exact⟨f,by omega,h2⟩
theorem Lists.more {C F:Nat→Int}{i:Nat}(h:Lists C F i) (hc:C i≠0):Lists C (cat (cnt C i) F (fun _=>(i:Int))) (i+1):=by
 refine⟨fun f hf hu=>?_,fun j hj=>?_⟩
 ·by_cases e:f=i
  ·subst e;unfold cat;rw[if_neg (by omega)]
  ·have:=zf1 C (show f<i by omega) hu
   unfold cat;rw[if_pos this];exact h.1 f (by omega) hu
 ·simp only[cnt,if_neg hc] at hj
  by_cases e:j<cnt C i
  ·obtain⟨f,h1,h2,h3⟩:=h.2 j e
   exact⟨f,by omega,h2,by unfold cat;rw[if_pos e];exact h3⟩
  ·exact⟨i,by omega,hc,by unfold cat;rw[if_neg e]⟩
end Go.Proofs.YthkelaeemefnaaaGreat
