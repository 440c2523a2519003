import Derived.Test.YthkelaeemefnaaaGreatRows
import Derived.WalkKit
import Derived.ProofKit
import Derived.OpenShut
import Derived.Room.BridgeHanded
import Derived.Carry
import Derived.Deep.Slices
namespace Go.Proofs.YthkelaeemefnaaaGreat
open Go.ChangeShapes Go.WideShapes Go.ChangeAt Go.RowKit
theorem z8J {H:Type}{enc:TypeId×Value→H}{P:Program}{f:Func}{s:ChangeSpec}{apart fresh handsOn:Bool}{W W':World}{args:Array Value}{v:Value}{ds gs:List (DataW H)}{before pa pv:List MemPlace}
  (hW:DataW.Whole enc P f.params.toList s.vars apart W args.toList ds gs before)
  (hres:∀ (b:Nat) (sp:Nat→Bool) (hd:Bool),DataW.TrodAll enc P W' b sp hd f.resultTypes.toList (v.resultList f.resultTypes.size) (s.fn H (ds++gs)).results [])
  (hargs:∀ sp:Nat→Bool,(∀ p∈before,sp p.block=true)→DataW.TrodAll enc P W' 0 sp true f.params.toList args.toList (s.fn H (ds++gs)).args pa)
  (hvars:∀ sp:Nat→Bool,(∀ p∈before,sp p.block=true)→DataW.TrodVars enc P W' sp s.vars (s.fn H (ds++gs)).vars pv)
  (hb:Below W.heap.size W W'):s.post enc P f apart fresh handsOn false W args v W':=by
 have hold:∀ p∈before,(fun b=>decide (b<W.heap.size)) p.block=true:=fun p hp=>by simpa using hW.lt p hp
 exact⟨ds,gs,before,[],pa,pv,hW,hres _ _ _,hargs _ hold,hvars _ hold,hb.frame _,fun h=>by cases h⟩
theorem z4y {H:Type}{enc:TypeId×Value→H}{P:Program}(hl:laidOutB P=true) {W W':World}{sp:Nat→Bool}:∀ (ts:List TypeId) {vs:List Value} {ds:List (DataW H)} {ps:List MemPlace},
  (∀ t∈ts,P.readableRec t=true∧t<P.types.size)→DataW.TrodAll enc P W 0 (fun _=>true) true ts vs ds ps→(∀ p∈ps,W.sameAt W' p)→(∀ p∈ps,sp p.block=true)→DataW.TrodAll enc P W' 0 sp true ts vs ds ps:=by
 intro ts
 induction ts with
 | nil =>
  intro vs ds ps _ h _ _
  obtain⟨rfl,rfl,rfl⟩:=trodAll_nil h
  exact trodAll_mk0
 | cons t ts ih =>
  intro vs ds ps hr h hs hp
  obtain⟨v,vs',d,ds',p,q,rfl,rfl,rfl,h0,h1⟩:=trodAll_cons h
  have r0:=hr t (List.mem_cons_self ..)
  exact trodAll_cons_mk (WideElems.Trod_stays hl r0.1 r0.2 h0 (fun x hx=>hs x (List.mem_append_left _ hx)) (fun x hx=>hp x (List.mem_append_left _ hx)))
   (ih (fun u hu=>hr u (List.mem_cons_of_mem _ hu)) h1 (fun x hx=>hs x (List.mem_append_right _ hx)) (fun x hx=>hp x (List.mem_append_right _ hx)))
theorem post_kept {H:Type}{enc:TypeId×Value→H}{P:Program}{f:Func}{s:ChangeSpec}{apart fresh handsOn:Bool}{W W':World}{args:Array Value}{v:Value}{ds gs:List (DataW H)}{before pv:List MemPlace}
  (hl:laidOutB P=true) (hr:∀ t∈f.params.toList,P.readableRec t=true∧t<P.types.size)
  (hW:DataW.Whole enc P f.params.toList s.vars apart W args.toList ds gs before)
  (hres:∀ (b:Nat) (sp:Nat→Bool) (hd:Bool),DataW.TrodAll enc P W' b sp hd f.resultTypes.toList (v.resultList f.resultTypes.size) (s.fn H (ds++gs)).results [])
  (hargs:(s.fn H (ds++gs)).args=ds)
  (hvars:∀ sp:Nat→Bool,(∀ p∈before,sp p.block=true)→DataW.TrodVars enc P W' sp s.vars (s.fn H (ds++gs)).vars pv)
  (hb:Below W.heap.size W W'):s.post enc P f apart fresh handsOn false W args v W':=by
 have hlt:=hW.lt
 have hW2:=hW
 obtain⟨p,q,hA,_,rfl,_,_⟩:=hW2
 refine z8J (pa:=p) hW hres (fun sp hsp=>?_) hvars hb
 rw[hargs]
 exact z4y hl _ hr hA (fun x hx=>hb.same (hlt x (List.mem_append_left _ hx))) (fun x hx=>hsp x (List.mem_append_left _ hx))
end Go.Proofs.YthkelaeemefnaaaGreat
namespace Go.Proofs.YthkelaeemefnaaaGreat
open Go.ChangeShapes Go.WideShapes Go.ChangeAt Go.RowKit Go.Deep
theorem ze6:Tryz.prog.cellsOf 37=9:=by kernel_rfl
theorem zg1:Tryz.prog.cellsOf 3=1:=by kernel_rfl
theorem cells4:Tryz.prog.cellsOf 4=1:=by kernel_rfl
theorem zcu {w:World}{a:Addr}{v:Value}(h:w.cell? a=some v):a.block<w.heap.size:=by
 apply Nat.lt_of_not_le
 intro hn
 have e:w.heap[a.block]?=none:=Array.getElem?_eq_none hn
 simp only[World.cell?,e] at h
 cases h
theorem open_steps {H:Type}{enc:TypeId×Value→H}{W:World}{ao:Option Addr}{len cap:Nat}{d:DataW H}{ps:List MemPlace}(h:DataW.Trod enc Tryz.prog W 0 (fun _=>true) true 22 (.slice ao len cap) d ps):
  len≤maxLen∧(len=0∨∃ (B o:Nat) (F:Nat→Nat→Int) (G:Nat→Bool),ao=some ⟨B,o,none⟩∧B<W.heap.size∧∀ i,i<len→(∀ j,j<8→W.cell? ⟨B,o+i*9+j,none⟩=some (.int .i64 (F i j)))∧W.cell? ⟨B,o+i*9+8,none⟩=some (.bool (G i))):=by
 obtain⟨n,hn⟩:=h
 rcases open_slice Tryz.underlying22 hn with ⟨hc,_⟩|⟨a,len',cap',m,k,D,Pl,hc,_,hl,hm,hmm,_,hx⟩
 ·simp[Value.cells] at hc
  exact⟨by rw[hc.2.1];exact Nat.zero_le _,Or.inl hc.2.1⟩
 ·simp[Value.cells] at hc
  obtain⟨rfl,rfl,rfl⟩:=hc
  simp only[if_true] at hmm
  subst hmm
  refine⟨Nat.le_trans hl hm,?_⟩
  rcases Nat.eq_zero_or_pos len with h0|hpos
  ·exact Or.inl h0
  right
  have each:∀ i,i<m→∃ q:(Nat→Int)×Bool,(∀ j,j<8→W.cell? (a.add (i*9+j))=some (.int .i64 (q.1 j)))∧W.cell? (a.add (i*9+8))=some (.bool q.2):=by
   intro i hi
   obtain⟨cs',h1,h2⟩:=hx i hi
   rw[ze6] at h1
   obtain⟨_,hlen,hcell⟩:=World.cells?_some h1
   obtain⟨xs,k',_,_,_,hxl,hf⟩:=DataW.trod_struct Tryz.underlying37 h2
   have hxl9:xs.length=9:=hxl
   have hd:∀ j (hj:j<9),(cs'.drop j).take 1=[cs'[j]'(by omega)]:=fun j hj=>by
    rw[List.drop_eq_getElem_cons (by omega)];rfl
   have one:∀ j,j<8→∃ z:Int,W.cell? (a.add (i*9+j))=some (.int .i64 z):=by
    intro j hj
    have hc:=hcell j (by omega)
    rw[add_add] at hc
    have hg:∀ f:Field,f.type=3→f.offset=j→DataW.trod enc Tryz.prog W 0 (fun _=>true) true k' f.type ((cs'.drop f.offset).take (Tryz.prog.cellsOf f.type))=xs[j]?→∃ z:Int,W.cell? (a.add (i*9+j))=some (.int .i64 z):=by
     intro f e1 e2 e3
     rw[e1,e2,zg1,List.getElem?_eq_getElem (show j<xs.length by omega)] at e3
     rw[hd j (by omega)] at e3
     obtain⟨z,hz,_,_⟩:=DataW.trod_int Tryz.underlying3 e3
     refine⟨z,?_⟩
     rw[hc,List.getElem?_eq_getElem (by omega)]
     simpa using hz
    match j,hj with
    | 0,_=>exact hg _ rfl rfl (hf 0 _ rfl)
    | 1,_=>exact hg _ rfl rfl (hf 1 _ rfl)
    | 2,_=>exact hg _ rfl rfl (hf 2 _ rfl)
    | 3,_=>exact hg _ rfl rfl (hf 3 _ rfl)
    | 4,_=>exact hg _ rfl rfl (hf 4 _ rfl)
    | 5,_=>exact hg _ rfl rfl (hf 5 _ rfl)
    | 6,_=>exact hg _ rfl rfl (hf 6 _ rfl)
    | 7,_=>exact hg _ rfl rfl (hf 7 _ rfl)
   have last:∃ b:Bool,W.cell? (a.add (i*9+8))=some (.bool b):=by
    have hc:=hcell 8 (by omega)
    rw[add_add] at hc
    have hg:∀ f:Field,f.type=4→f.offset=8→DataW.trod enc Tryz.prog W 0 (fun _=>true) true k' f.type ((cs'.drop f.offset).take (Tryz.prog.cellsOf f.type))=xs[8]?→∃ b:Bool,W.cell? (a.add (i*9+8))=some (.bool b):=by
     intro f e1 e2 e3
     rw[e1,e2,cells4,List.getElem?_eq_getElem (show 8<xs.length by omega)] at e3
     rw[hd 8 (by omega)] at e3
     obtain⟨z,hz,_⟩:=DataW.trod_bool Tryz.underlying4 e3
     refine⟨z,?_⟩
     rw[hc,List.getElem?_eq_getElem (by omega)]
     simpa using hz
    exact hg _ rfl rfl (hf 8 _ rfl)
   obtain⟨f,hf'⟩:=choose_lt one
   obtain⟨b,hb⟩:=last
   exact⟨(f,b),hf',hb⟩
  obtain⟨F,hF⟩:=choose_lt each
  obtain⟨B,o,spot⟩:=a
  have f0:=(hF 0 (by omega)).1 0 (by omega)
  have hspot:spot=none:=by simpa [Addr.add] using World.cell?_spot f0
  subst hspot
  have hB:=zcu f0
  refine⟨B,o,fun i=>(F i).1,fun i=>(F i).2,rfl,by simpa [Addr.add] using hB,fun i hi=>?_⟩
  obtain⟨h1,h2⟩:=hF i (by omega)
  refine⟨fun j hj=>?_,?_⟩
  ·have:=h1 j hj
   rw[add_plain,← Nat.add_assoc] at this
   exact this
  ·rw[add_plain,← Nat.add_assoc] at h2
   exact h2
end Go.Proofs.YthkelaeemefnaaaGreat
