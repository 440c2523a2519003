import Derived.Test.YthkelaeemefnaaaGreatMXA4qz
import Derived.Test.YthkelaeemefnaaaGreatMXA5qz
import Derived.Test.YthkelaeemefnaaaGreatMXA7qz
import Derived.Test.YthkelaeemefnaaaGreatMXA8qz
import Derived.Test.YthkelaeemefnaaaGreatMXR4qz
set_option maxRecDepth 20000
set_option maxHeartbeats 8000000
namespace Go.Proofs.YthkelaeemefnaaaGreat
open Go.RowKit
section
variable {B:Nat}{w0 w:World}{rh hb:Nat}{X:Cm}{fs qs:List Int}{y rb W T i:Nat}{va vq:Value}{vr:Nat→Value}{L:List Lr}
theorem zgd {C S I:Int}(hf:(1≤C∧C≤3)∧kmin C≤S∧S≤kmax C) (h0:0≤I):∃ n:Nat,S=n∧Fits C I n:=by
 have hk:kmin C=0:=by unfold kmin;rw[if_neg (by omega)]
 obtain⟨n,rfl⟩:=Int.eq_ofNat_of_zero_le (show 0≤S by omega)
 exact⟨n,rfl,hf.1,hf.2,h0⟩
theorem z9z (H:Pl13 B w0 w rh hb X fs qs y rb W T va vq vr X.rt qs L (fun _=>False)) (hO:Ok13 X fs qs W T L i) (hi:i≤200) (K A C S P I O V:Int) (F:Bool):
  Calls Tryz.prog 24 #[.pointer (some ⟨y,0,none⟩),.agg #[.int .i64 K,.int .i64 A,.int .i64 C,.int .i64 S,.int .i64 P,.int .i64 I,.int .i64 O,.int .i64 V,.bool F]] w (z0p B w0 rh hb y rb W T (i+1)):=by
 rcases Int.lt_or_le A 0 with a|a
 ·rcases Int.lt_or_le K 3 with k|k
  ·exact zef H hO hi K A C S P I O V F k a
  ·exact zeJ H hO hi K A C S P I O V F k a
 rcases Int.lt_or_le A T with a2|a2
 ·obtain⟨t,rfl⟩:=Int.eq_ofNat_of_zero_le a
  have ht:t<T:=by omega
  rcases Int.lt_or_le K 3 with k|k
  ·by_cases hf:(1≤C∧C≤3)∧kmin C≤S∧S≤kmax C
   ·rcases Int.lt_or_le I 0 with h0|h0
    ·exact zcF H hO hi K t C S P I O V F k t ht rfl hf h0
    obtain⟨n,hn,hF⟩:∃ n:Nat,S=n∧Fits C I n:=zgd hf h0
    rcases Nat.lt_or_ge (X.rt t).length 64 with r|r
    ·rcases Nat.lt_or_ge (W/4) (sumS X.S+(n+16)) with s|s
     ·exact zby H hO hi K t C S P I O V F k t n ht rfl hn hF r s
     ·exact zfa H hO hi K t C S P I O V F k t n ht rfl hn hF r s
    ·exact zar H hO hi K t C S P I O V F k t n ht rfl hn hF r
   ·exact zcp H hO hi K t C S P I O V F k t ht rfl hf
  ·rcases Nat.lt_or_ge (X.rt t).length 64 with r|r
   ·rcases Nat.lt_or_ge (W/4) (sumS X.S+17) with s|s
    ·exact zbT H hO hi K t C S P I O V F k t ht rfl r s
    ·exact zfw H hO hi K t C S P I O V F k t ht rfl r s
   ·exact zau H hO hi K t C S P I O V F k t ht rfl r
 ·rcases Int.lt_or_le K 3 with k|k
  ·exact zeD H hO hi K A C S P I O V F k a2
  ·exact zep H hO hi K A C S P I O V F k a2
theorem z9d (H:Pl13 B w0 w rh hb X fs qs y rb W T va vq vr X.rt qs L (fun _=>False)) (hO:Ok13 X fs qs W T L i) (hi:i≤200) (K A C S P I O V:Int) (F:Bool):
  Calls Tryz.prog 25 #[.pointer (some ⟨y,0,none⟩),.agg #[.int .i64 K,.int .i64 A,.int .i64 C,.int .i64 S,.int .i64 P,.int .i64 I,.int .i64 O,.int .i64 V,.bool F]] w (z0p B w0 rh hb y rb W T (i+1)):=by
 by_cases k:K=5
 ·subst k
  rcases Int.lt_or_le A 0 with a|a
  ·exact z9t H hO hi A C S P I O V F a
  rcases Int.lt_or_le A T with a2|a2
  ·obtain⟨t,rfl⟩:=Int.eq_ofNat_of_zero_le a
   have ht:t<T:=by omega
   rcases Nat.lt_or_ge (X.rt t).length 64 with r|r
   ·exact zbf H hO hi t C S P I O V F t ht rfl r
   ·exact z8d H hO hi t C S P I O V F t ht rfl r
  ·exact z9c H hO hi A C S P I O V F a2
 ·rcases Int.lt_or_le A 0 with a|a
  ·exact zb4 H hO K A C S P I O V F k a
  rcases Int.lt_or_le A T with a2|a2
  ·obtain⟨t,rfl⟩:=Int.eq_ofNat_of_zero_le a
   have ht:t<T:=by omega
   rcases List.eq_nil_or_concat (X.rt t) with r|⟨U,x,r⟩
   ·exact z9J H hO K t C S P I O V F k t ht rfl r
   ·exact zbj H hO K t C S P I O V F k t ht rfl U x (by rw[r,List.concat_eq_append])
  ·exact zaf H hO K A C S P I O V F k a2
theorem zaj (H:Pl13 B w0 w rh hb X fs qs y rb W T va vq vr X.rt qs L (fun _=>False)) (hO:Ok13 X fs qs W T L i) (hi:i≤200) (K A C S P I O V:Int) (F:Bool):
  Calls Tryz.prog 26 #[.pointer (some ⟨y,0,none⟩),.agg #[.int .i64 K,.int .i64 A,.int .i64 C,.int .i64 S,.int .i64 P,.int .i64 I,.int .i64 O,.int .i64 V,.bool F]] w (z0p B w0 rh hb y rb W T (i+1)):=by
 by_cases k:K=8
 ·subst k
  exact zca H hO hi A C S P I O V F
 ·exact zbH H hO hi K A C S P I O V F k
theorem z93 (H:Pl13 B w0 w rh hb X fs qs y rb W T va vq vr X.rt qs L (fun _=>False)) (hO:Ok13 X fs qs W T L i) (hi:i≤200) (K A C S P I O V:Int) (F:Bool) (hK:K<5):
  Calls Tryz.prog 10 #[.pointer (some ⟨y,0,none⟩),.agg #[.int .i64 K,.int .i64 A,.int .i64 C,.int .i64 S,.int .i64 P,.int .i64 I,.int .i64 O,.int .i64 V,.bool F]] w (z0p B w0 rh hb y rb W T (i+1)):=by
 have hx0:=Pb13.start H K A C S P I O V F
 have hC:=z9z hx0.play.less hO hi K A C S P I O V F
 have d0:decide (K<5)=true:=by simp;omega
 have f0:=hx0.facts
 clear H hO hK hx0
 go_enter Tryz.func10,Tryz.ntmps10
 go_wp2_with (go_at_call 24;refine hC.mono ?_;clear hC;rintro e w2 ⟨rfl,hE⟩)
 go_ret
 exact⟨rfl,hE⟩
theorem za9 (H:Pl13 B w0 w rh hb X fs qs y rb W T va vq vr X.rt qs L (fun _=>False)) (hO:Ok13 X fs qs W T L i) (hi:i≤200) (K A C S P I O V:Int) (F:Bool) (hK:5≤K∧K<8):
  Calls Tryz.prog 10 #[.pointer (some ⟨y,0,none⟩),.agg #[.int .i64 K,.int .i64 A,.int .i64 C,.int .i64 S,.int .i64 P,.int .i64 I,.int .i64 O,.int .i64 V,.bool F]] w (z0p B w0 rh hb y rb W T (i+1)):=by
 have hx0:=Pb13.start H K A C S P I O V F
 have hC:=z9d hx0.play.less hO hi K A C S P I O V F
 have d0:decide (K<5)=false:=by simp;omega
 have d1:decide (K<8)=true:=by simp;omega
 have f0:=hx0.facts
 clear H hO hK hx0
 go_enter Tryz.func10,Tryz.ntmps10
 go_wp2_with (go_at_call 25;refine hC.mono ?_;clear hC;rintro e w2 ⟨rfl,hE⟩)
 go_ret
 exact⟨rfl,hE⟩
theorem zaq (H:Pl13 B w0 w rh hb X fs qs y rb W T va vq vr X.rt qs L (fun _=>False)) (hO:Ok13 X fs qs W T L i) (hi:i≤200) (K A C S P I O V:Int) (F:Bool) (hK:8≤K∧K<11):
  Calls Tryz.prog 10 #[.pointer (some ⟨y,0,none⟩),.agg #[.int .i64 K,.int .i64 A,.int .i64 C,.int .i64 S,.int .i64 P,.int .i64 I,.int .i64 O,.int .i64 V,.bool F]] w (z0p B w0 rh hb y rb W T (i+1)):=by
 have hx0:=Pb13.start H K A C S P I O V F
 have hC:=zaj hx0.play.less hO hi K A C S P I O V F
 have d0:decide (K<5)=false:=by simp;omega
 have d1:decide (K<8)=false:=by simp;omega
 have d2:decide (K<11)=true:=by simp;omega
 have f0:=hx0.facts
 clear H hO hK hx0
 go_enter Tryz.func10,Tryz.ntmps10
 go_wp2_with (go_at_call 26;refine hC.mono ?_;clear hC;rintro e w2 ⟨rfl,hE⟩)
 go_ret
 exact⟨rfl,hE⟩
theorem z8X (H:Pl13 B w0 w rh hb X fs qs y rb W T va vq vr X.rt qs L (fun _=>False)) (hO:Ok13 X fs qs W T L i) (hi:i≤200) (K A C S P I O V:Int) (F:Bool) (hK:11≤K∧K<13):
  Calls Tryz.prog 10 #[.pointer (some ⟨y,0,none⟩),.agg #[.int .i64 K,.int .i64 A,.int .i64 C,.int .i64 S,.int .i64 P,.int .i64 I,.int .i64 O,.int .i64 V,.bool F]] w (z0p B w0 rh hb y rb W T (i+1)):=by
 have hx0:=Pb13.start H K A C S P I O V F
 have hC:=zci hx0.play.less hO hi K A C S P I O V F
 have d0:decide (K<5)=false:=by simp;omega
 have d1:decide (K<8)=false:=by simp;omega
 have d2:decide (K<11)=false:=by simp;omega
 have d3:decide (K<13)=true:=by simp;omega
 have f0:=hx0.facts
 clear H hO hK hx0
 go_enter Tryz.func10,Tryz.ntmps10
 go_wp2_with (go_at_call 27;refine hC.mono ?_;clear hC;rintro e w2 ⟨rfl,hE⟩)
 go_ret
 exact⟨rfl,hE⟩
theorem zb6 (H:Pl13 B w0 w rh hb X fs qs y rb W T va vq vr X.rt qs L (fun _=>False)) (hO:Ok13 X fs qs W T L i) (hi:i≤200) (K A C S P I O V:Int) (F:Bool) (hK:K=13):
  Calls Tryz.prog 10 #[.pointer (some ⟨y,0,none⟩),.agg #[.int .i64 K,.int .i64 A,.int .i64 C,.int .i64 S,.int .i64 P,.int .i64 I,.int .i64 O,.int .i64 V,.bool F]] w (z0p B w0 rh hb y rb W T (i+1)):=by
 have hx0:=Pb13.start H K A C S P I O V F
 have hC:=zbA hx0.play.less hO hi
 subst hK
 have f0:=hx0.facts
 clear H hO hx0
 go_enter Tryz.func10,Tryz.ntmps10
 go_wp2_with (go_at_call 28;refine hC.mono ?_;clear hC;rintro e w2 ⟨rfl,hE⟩)
 go_ret
 exact⟨rfl,hE⟩
theorem z8i (H:Pl13 B w0 w rh hb X fs qs y rb W T va vq vr X.rt qs L (fun _=>False)) (hO:Ok13 X fs qs W T L i) (hi:i≤200) (K A C S P I O V:Int) (F:Bool) (hK:14≤K):
  Calls Tryz.prog 10 #[.pointer (some ⟨y,0,none⟩),.agg #[.int .i64 K,.int .i64 A,.int .i64 C,.int .i64 S,.int .i64 P,.int .i64 I,.int .i64 O,.int .i64 V,.bool F]] w (z0p B w0 rh hb y rb W T (i+1)):=by
 have hx0:=Pb13.start H K A C S P I O V F
 have hC:=z94 hx0.play.less hO hi
 have d0:decide (K<5)=false:=by simp;omega
 have d1:decide (K<8)=false:=by simp;omega
 have d2:decide (K<11)=false:=by simp;omega
 have d3:decide (K<13)=false:=by simp;omega
 have d9:(K == 13)=false:=by simp;omega
 have f0:=hx0.facts
 clear H hO hK hx0
 go_enter Tryz.func10,Tryz.ntmps10
 go_wp2_with (go_at_call 29;refine hC.mono ?_;clear hC;rintro e w2 ⟨rfl,hE⟩)
 go_ret
 exact⟨rfl,hE⟩
theorem zbF (h:Ed13 B w0 rh hb y rb W T i w) (hi:i≤200) (K A C S P I O V:Int) (F:Bool):
  Calls Tryz.prog 10 #[.pointer (some ⟨y,0,none⟩),.agg #[.int .i64 K,.int .i64 A,.int .i64 C,.int .i64 S,.int .i64 P,.int .i64 I,.int .i64 O,.int .i64 V,.bool F]] w (z0p B w0 rh hb y rb W T (i+1)):=by
 obtain⟨X,fs,qs,va,vq,vr,L,H,hO⟩:=h
 rcases (show K<5∨(5≤K∧K<8)∨(8≤K∧K<11)∨(11≤K∧K<13)∨K=13∨14≤K by omega) with k|k|k|k|k|k
 ·exact z93 H hO hi K A C S P I O V F k
 ·exact za9 H hO hi K A C S P I O V F k
 ·exact zaq H hO hi K A C S P I O V F k
 ·exact z8X H hO hi K A C S P I O V F k
 ·exact zb6 H hO hi K A C S P I O V F k
 ·exact z8i H hO hi K A C S P I O V F k
end
end Go.Proofs.YthkelaeemefnaaaGreat
namespace Go.Proofs.YthkelaeemefnaaaGreat
open Go.RowKit
theorem zfZ (n:Int):∃ s:Nat,bits BinOp.and .i64 n 3=(s:Int)∧s<4:=by
 have e:(BitVec.ofInt 64 n &&& BitVec.ofInt 64 3).toNat=(n%18446744073709551616).toNat%4:=by
  rw[BitVec.toNat_and,BitVec.toNat_ofInt,show (BitVec.ofInt 64 3).toNat=2 ^ 2-1 from by decide,Nat.and_two_pow_sub_one_eq_mod];rfl
 refine⟨(n%18446744073709551616).toNat%4,?_,by omega⟩
 show IntKind.i64.wrap ((BitVec.ofInt 64 n &&& BitVec.ofInt 64 3).toNat:Nat)=_
 rw[e,IntKind.wrap_i64];omega
theorem zeR (z:Int):∃ a:Nat,wrap64 ((IntKind.u64.wrap z).tmod 9000)=a∧a<9000:=by
 have h0:0≤IntKind.u64.wrap z:=by rw[IntKind.wrap_u64];omega
 generalize IntKind.u64.wrap z=q at h0 ⊢
 have a1:=Int.emod_nonneg q (b:=9000) (by omega)
 have a2:=Int.emod_lt_of_pos q (b:=9000) (by omega)
 refine⟨(q%9000).toNat,?_,by omega⟩
 rw[Int.tmod_eq_emod_of_nonneg h0]
 generalize q%9000=r at a1 a2 ⊢
 rw[show wrap64 r=r from by unfold wrap64;omega]
 omega
theorem zfg:(Tryz.prog.info? 32).map (fun i=>(i.zero,i.size,i.bytes))=some (some (.slice none 0 0),1,24):=by kernel_rfl
theorem zb7 {B:Nat}{w0 w:World}{rh hb W T:Nat}{Z:Cx}(H:Rv B w0 w rh hb (cm0 W T) Z (.slice none 0 0) (.slice none 0 0) [] []) (hW:W≤10100) (hT:1≤T∧T≤4):
  Ed13 B w0 rh hb (w.heap.size+1) w.heap.size W T 0 ((w.alloc (.cells (madeCells #[.slice none 0 0] T) 32)).alloc (.cells #[.pointer (some ⟨rh,0,none⟩),.int .i64 W,.int .i64 T,.slice none 0 0,.slice (some ⟨w.heap.size,0,none⟩) T T,.slice none 0 0] 34)):=by
 have hs:=RS.new W T H
 have b1:Below w.heap.size w (w.alloc (.cells (madeCells #[.slice none 0 0] T) 32)):=(Below.refl _ _).alloc (Nat.le_refl _) _
 have hrow:(w.alloc (.cells (madeCells #[.slice none 0 0] T) 32)).rowIs w.heap.size 32 T (fun _=>.slice none 0 0):=World.rowIs_made w (.slice none 0 0) T 32
 have hz1:(w.alloc (.cells (madeCells #[.slice none 0 0] T) 32)).heap.size=w.heap.size+1:=Go.Deep.nblk_alloc _ _
 generalize w.alloc (.cells (madeCells #[.slice none 0 0] T) 32)=w1 at *
 have b2:Below w1.heap.size w1 (w1.alloc (.cells #[.pointer (some ⟨rh,0,none⟩),.int .i64 W,.int .i64 T,.slice none 0 0,.slice (some ⟨w.heap.size,0,none⟩) T T,.slice none 0 0] 34)):=(Below.refl _ _).alloc (Nat.le_refl _) _
 have hy:=heap_alloc_new w1 (.cells #[.pointer (some ⟨rh,0,none⟩),.int .i64 W,.int .i64 T,.slice none 0 0,.slice (some ⟨w.heap.size,0,none⟩) T T,.slice none 0 0] 34)
 have hz2:(w1.alloc (.cells #[.pointer (some ⟨rh,0,none⟩),.int .i64 W,.int .i64 T,.slice none 0 0,.slice (some ⟨w.heap.size,0,none⟩) T T,.slice none 0 0] 34)).heap.size=w1.heap.size+1:=Go.Deep.nblk_alloc _ _
 rw[hz1] at hy hz2
 generalize w1.alloc (.cells #[.pointer (some ⟨rh,0,none⟩),.int .i64 W,.int .i64 T,.slice none 0 0,.slice (some ⟨w.heap.size,0,none⟩) T T,.slice none 0 0] 34)=w2 at *
 have bb:Below w.heap.size w w2:=b1.trans (b2.mono b1.size)
 have hnil:∀ q∈bunL (.slice none 0 0) [] (fun _=>.slice none 0 0) (fun _=>[]) T [],q=((.slice none 0 0:Value),([]:List Int)):=fun q hq=>by
  unfold bunL at hq
  rcases List.mem_cons.1 hq with z|z
  ·exact z
  ·rcases List.mem_append.1 z with z|z
   ·obtain⟨t,_,e⟩:=List.mem_map.1 z
    exact e.symm
   ·simp at z
 have hB:=hs.size
 refine⟨cm0 W T,[],[],.slice none 0 0,.slice none 0 0,fun _=>.slice none 0 0,[],⟨hs.mine (Bt.of_below bb) (fun k hk=>?_),⟨hy,Rs.nil _ _ _ _,hrow.of_block (b2.block _ (by omega)),⟨fun j q hq=>?_,fun i j p q hp hq _ k hk=>?_⟩,by omega,hB⟩⟩,Ag13.nil W T,rfl,rfl,⟨hT.1,hT.2,hW⟩,fun t _=>Nat.zero_le _,⟨Nat.le_refl _,Nat.le_refl _⟩,Nat.le_refl _,Int.le_refl _,Int.le_refl _⟩
 ·refine .inr ?_
  rcases hk with (q|q|q|⟨p,q1,q2⟩)|q
  ·omega
  ·omega
  ·simp[Value.ownBlock] at q
  ·rw[hnil p q1] at q2
   simp[Value.ownBlock] at q2
  ·exact q.elim
 ·rw[hnil q (List.mem_of_getElem? hq)]
  exact Ri.nil _ _
 ·rw[hnil p (List.mem_of_getElem? hp)] at hk
  simp[Value.ownBlock] at hk
theorem Ed13.bel {B:Nat}{w0 w:World}{rh hb y rb W T i:Nat}(h:Ed13 B w0 rh hb y rb W T i w):Below B w0 w:=by
 obtain⟨_,_,_,_,_,_,_,H,_⟩:=h
 exact H.rs.bel
theorem Ed13.size {B:Nat}{w0 w:World}{rh hb y rb W T i:Nat}(h:Ed13 B w0 rh hb y rb W T i w):B≤w.heap.size:=by
 obtain⟨_,_,_,_,_,_,_,H,_⟩:=h
 exact H.rs.size
theorem acts13_walk (a0 a1:Int) (ao:Option Addr) (len cap:Nat) (w:World) (_hlen:len≤maxLen)
  (hs:len=0∨∃ (B o:Nat) (F:Nat→Nat→Int) (G:Nat→Bool),ao=some ⟨B,o,none⟩∧B<w.heap.size∧∀ i,i<len→(∀ j,j<8→w.cell? ⟨B,o+i*9+j,none⟩=some (.int .i64 (F i j)))∧w.cell? ⟨B,o+i*9+8,none⟩=some (.bool (G i))):
  Calls Tryz.prog 3 #[.int .i64 a0,.int .i64 a1,.slice ao len cap] w fun e w'=>e=.returned (.bool true)∧Below w.heap.size w w':=by
 unfold maxLen at _hlen
 have Hs:Hid (len=0∨∃ (B o:Nat) (F:Nat→Nat→Int) (G:Nat→Bool),ao=some ⟨B,o,none⟩∧B<w.heap.size∧∀ i,i<len→(∀ j,j<8→w.cell? ⟨B,o+i*9+j,none⟩=some (.int .i64 (F i j)))∧w.cell? ⟨B,o+i*9+8,none⟩=some (.bool (G i))):=hs
 obtain⟨a,ha,ha9⟩:=zeR a0
 obtain⟨b,hb3,hb4⟩:=zfZ a1
 obtain⟨W,hWe⟩:∃ W:Nat,W=1024+a:=⟨_,rfl⟩
 obtain⟨T,hTe⟩:∃ T:Nat,T=1+b:=⟨_,rfl⟩
 have hWi:(1024:Int)+(a:Int)=(W:Int):=by omega
 have hTi:(1:Int)+(b:Int)=(T:Int):=by omega
 have hWb:1024≤W∧W≤10100:=by omega
 have hTb:1≤T∧T≤4:=by omega
 have hN:=z9o W T W T w rfl rfl ⟨hWb.1,by omega⟩ ⟨hTb.1,by omega⟩
 have hmk:=run_make_row' (P:=Tryz.prog) 30 32 (.slice none 0 0) 24 Tryz.underlying30 zfg rfl .i64 .i64 T (by omega) (by omega)
 clear hs hWe hTe ha9 hb4
 go_enter Tryz.func3,Tryz.ntmps3
 go_wp2_with (first
  | (go_at_call 8;refine hN.mono ?_;rintro e w1 ⟨rh,hb,Z1,rfl,H1⟩;clear hN;have hE0:=zb7 H1 hWb.2 hTb;clear H1)
  | (go_at_call 9;refine (z04 _ _).mono ?_;rintro e w9 ⟨rfl,hw9⟩;replace hw9:=hw9.symm;subst hw9))
 clear ha hb3 hWi hTi hmk hWb hTb
 generalize World.alloc (World.alloc _ _) _=U0 at hE0 ⊢
 generalize w1.heap.size+1=y at hE0 ⊢
 generalize w1.heap.size=rb at hE0 ⊢
 have HE0:Hid (Ed13 w.heap.size w rh hb y rb W T 0 U0):=hE0
 clear hE0
 go_loopg [12] 201 (fun kx s12 wr=>∃ t:Nat,s12=.int .i64 t∧t≤200∧200-t≤kx∧Hid (Ed13 w.heap.size w rh hb y rb W T t wr))
 case atStart=>exact⟨0,rfl,by omega,by omega,HE0.out⟩
 case round =>
 clear HE0
 obtain⟨t,rfl,ht,hkx,HE⟩:=hrel
 obtain⟨gb,hgb⟩:∃ gb:Bool,gb=decide (t<len∧t<200):=⟨_,rfl⟩
 have Hgb:Hid (gb=decide (t<len∧t<200)):=hgb
 clear hgb
 go_upto_region 7 with fail
 go_cut [44] from 37 to 44 (fun s44 wx=>s44=.bool gb∧wx=wr)
 case first =>
  by_cases t1:t<len
  ·have t1':(t:Int)<(len:Int):=by omega
   by_cases t2:t<200
   ·have t2':(t:Int)<200:=by omega
    as_aux_lemma =>
     go_wp2_with fail
     go_meet
     exact⟨by rw[Hgb.out,decide_eq_true ⟨t1,t2⟩],rfl⟩
   ·have t2':decide ((t:Int)<200)=false:=by simp;omega
    as_aux_lemma =>
     go_wp2_with fail
     go_meet
     exact⟨by rw[Hgb.out,decide_eq_false (by omega)],rfl⟩
  ·have t1':decide ((t:Int)<(len:Int))=false:=by simp;omega
   as_aux_lemma =>
    go_wp2_with fail
    go_meet
    exact⟨by rw[Hgb.out,decide_eq_false (by omega)],rfl⟩
 case rest =>
 obtain⟨rfl,rfl⟩:=hcut
 cases hgg:gb with
 | true =>
  have hgo:t<len∧t<200:=by
   have:=Hgb.out;rw[hgg] at this;simpa using this
  obtain⟨Bs,o,F,G,rfl,hB,hF⟩:=Hs.out.resolve_left (by omega)
  have hbel:Below w.heap.size w wc:=HE.out.bel
  have cel:∀ j,j<8→wc.cell? ⟨Bs,o+t*9+j,none⟩=some (.int .i64 (F t j)):=fun j hj=>(hbel.cell hB).trans ((hF t hgo.1).1 j hj)
  have d8:wc.cell? ⟨Bs,o+t*9+8,none⟩=some (.bool (G t)):=(hbel.cell hB).trans (hF t hgo.1).2
  obtain⟨K,hK⟩:∃ K,F t 0=K:=⟨_,rfl⟩
  obtain⟨A,hA⟩:∃ A,F t 1=A:=⟨_,rfl⟩
  obtain⟨C,hC⟩:∃ C,F t 2=C:=⟨_,rfl⟩
  obtain⟨S,hS⟩:∃ S,F t 3=S:=⟨_,rfl⟩
  obtain⟨P,hP⟩:∃ P,F t 4=P:=⟨_,rfl⟩
  obtain⟨I,hI⟩:∃ I,F t 5=I:=⟨_,rfl⟩
  obtain⟨O,hO⟩:∃ O,F t 6=O:=⟨_,rfl⟩
  obtain⟨V,hV⟩:∃ V,F t 7=V:=⟨_,rfl⟩
  generalize G t=Fb at d8
  have d0:=cel 0 (by omega)
  have d1:=cel 1 (by omega)
  have d2:=cel 2 (by omega)
  have d3:=cel 3 (by omega)
  have d4:=cel 4 (by omega)
  have d5:=cel 5 (by omega)
  have d6:=cel 6 (by omega)
  have d7:=cel 7 (by omega)
  rw[hK,Nat.add_zero] at d0
  rw[hA] at d1
  rw[hC] at d2
  rw[hS] at d3
  rw[hP] at d4
  rw[hI] at d5
  rw[hO] at d6
  rw[hV] at d7
  have hact:=zbF HE.out ht K A C S P I O V Fb
  have hlt:(t:Int)<(len:Int):=by omega
  clear cel hF hK hA hC hS hP hI hO hV HE hbel Hs
  go_wp2_with (first
   | (go_at_call 10;refine hact.mono ?_;rintro e w2 ⟨rfl,h2⟩;have hth:=zd4 h2 (by omega);clear hact h2 d0 d1 d2 d3 d4 d5 d6 d7 d8)
   | (go_at_call 11;refine hth.mono ?_;rintro e w3 ⟨rfl,h3⟩;have H3:Hid (Ed13 w.heap.size w rh hb y rb W T (t+1) w3):=h3;clear hth h3))
  go_roundg (200-(t+1))
  case measure=>omega
  case rel=>exact⟨t+1,by go_num,by omega,by omega,H3.out⟩
 | false =>
  have hA:=zdH wc
  go_wp2_with (go_at_call 12;refine hA.mono ?_;rintro e w2 ⟨rfl,hb2⟩;clear hA)
  go_ret
  exact⟨rfl,HE.out.bel.trans (hb2.mono HE.out.size)⟩
end Go.Proofs.YthkelaeemefnaaaGreat
