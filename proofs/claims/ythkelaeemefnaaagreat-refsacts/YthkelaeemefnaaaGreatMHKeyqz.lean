import Derived.Test.YthkelaeemefnaaaGreatMP1qz
namespace Go.Proofs.YthkelaeemefnaaaGreat
open Go.RowKit
def z0g (K:List Int):Prop:=K.Pairwise (·<·)
def posK (K:List Int) (t:Int):Nat:=K.countP fun x=>decide (x<t)
def hasK (K:List Int) (t:Int):Bool:=K.any fun x=>decide (x=t)
theorem z6O (K:List Int) (t:Int):posK K t≤K.length:=List.countP_le_length
theorem zas {K:List Int}{t:Int}(h:∀ x∈K,t≤x):posK K t=0:=by
 unfold posK
 rw[List.countP_eq_zero]
 intro x hx
 have:=h x hx
 simp;omega
theorem z1t:∀ (K:List Int) (t:Int),z0g K→∀ (i:Nat) (x:Int),K[i]?=some x→(i<posK K t↔x<t)
 | [],_,_,i,x,h=>by simp at h
 | y::r,t,hs,i,x,h=>by
  have hs':z0g r:=(List.pairwise_cons.1 hs).2
  have hy:=(List.pairwise_cons.1 hs).1
  by_cases ht:y<t
  ·have e:posK (y::r) t=posK r t+1:=by unfold posK;rw[List.countP_cons_of_pos (by simpa using ht)]
   rw[e]
   cases i with
   | zero=>simp at h;subst h;simp[ht]
   | succ i =>
    have h':r[i]?=some x:=by simpa using h
    have:=z1t r t hs' i x h'
    omega
  ·have e:posK (y::r) t=0:=zas (by
    intro z hz
    rcases List.mem_cons.1 hz with rfl|hz
    ·omega
    ·have:=hy z hz;omega)
   rw[e]
   have:t≤x:=by
    have hx:x∈y::r:=List.mem_of_getElem? h
    rcases List.mem_cons.1 hx with rfl|hz
    ·omega
    ·have:=hy x hz;omega
   omega
theorem z12 (K:List Int) (t:Int):hasK K t=true↔t∈K:=by simp[hasK]
theorem z1b {K:List Int}{t:Int}(hs:z0g K) {i:Nat}(hi:K[i]?=some t):posK K t=i∧hasK K t=true:=by
 have h1:=z1t K t hs i t hi
 have hl:i<K.length:=(List.getElem?_eq_some_iff.1 hi).1
 have h2:¬ posK K t<i:=by
  intro hlt
  have hlt':posK K t<K.length:=by omega
  have h3:=z1t K t hs _ _ (List.getElem?_eq_getElem hlt')
  have h4:=List.pairwise_iff_getElem.1 hs (posK K t) i hlt' hl hlt
  rw[(List.getElem?_eq_some_iff.1 hi).2] at h4
  omega
 exact⟨by omega,(z12 K t).2 (List.mem_of_getElem? hi)⟩
theorem z1P {K:List Int}{t:Int}(hs:z0g K) (h:hasK K t=true):K[posK K t]?=some t:=by
 obtain⟨i,hi,e⟩:=List.getElem_of_mem ((z12 K t).1 h)
 have hi':K[i]?=some t:=by rw[List.getElem?_eq_getElem hi,e]
 rw[(z1b hs hi').1];exact hi'
theorem z4s {K:List Int}{t:Int}(h:hasK K t=false) {i:Nat}{x:Int}(hx:K[i]?=some x):x≠t:=by
 rintro rfl
 have:hasK K x=true:=(z12 K x).2 (List.mem_of_getElem? hx)
 rw[h] at this;simp at this
section
variable {w:World}{B:Nat}{e:TypeId}{k:Nat}{R:List (List Value)}{p cap n:Nat}
theorem Rs.row (h:Rs w B e k (.slice (some ⟨p,0,none⟩) n cap) R):n=R.length∧n≤cap∧cap≤maxLen∧B≤p∧∃ F:Nat→Value,w.rowIs p e (cap*k) F∧∀ j,j<R.length*k→R.flatten[j]?=some (F j):=by
 rcases h.own.2 with ⟨q,_⟩|⟨g,cap',cur,q,h1,h2,h3,h4,h5,h6⟩
 ·simp at q
 ·simp only[Value.slice.injEq,Option.some.injEq,Addr.mk.injEq,and_true] at q
  obtain⟨rfl,rfl,rfl⟩:=q
  have hle:R.length*k≤cap*k:=Nat.mul_le_mul_right k h3
  refine⟨rfl,h3,h4,h1,fun j=>cur[j]?.getD default,⟨cur,h2,h5,fun j hj=>?_⟩,fun j hj=>?_⟩
  ·show cur[j]?=some (cur[j]?.getD default)
   rw[Array.getElem?_eq_getElem (by omega)];rfl
  ·show _=some (cur[j]?.getD default)
   rw[← h6,List.getElem?_take,if_pos (by omega),Array.getElem?_toList,Array.getElem?_eq_getElem (by omega)];rfl
theorem Rs.of_row {F:Nat→Value}(hr:w.rowIs p e (cap*k) F) (hB:B≤p) (hc:R.length≤cap) (hm:cap≤maxLen) (hl:∀ r∈R,r.length=k) (hF:∀ j,j<R.length*k→R.flatten[j]?=some (F j)):Rs w B e k (.slice (some ⟨p,0,none⟩) R.length cap) R:=by
 obtain⟨c,hp,hs,hcell⟩:=hr
 have hle:R.length*k≤cap*k:=Nat.mul_le_mul_right k hc
 refine⟨⟨z14 R hl,.inr ⟨p,cap,c,rfl,hB,hp,hc,hm,hs,?_⟩⟩,hl⟩
 apply List.ext_getElem?
 intro j
 rw[List.getElem?_take]
 by_cases hj:j<R.length*k
 ·rw[if_pos hj,hF j hj,Array.getElem?_toList,hcell j (by omega)]
 ·rw[if_neg hj,List.getElem?_eq_none (by rw[z14 R hl];omega)]
theorem z4d (hl:∀ r∈R,r.length=k) (i:Nat) (hi:i<R.length) (F:Nat→Value) (hF:∀ j,j<R.length*k→R.flatten[j]?=some (F j)) (j:Nat) (hj:j<(R.length-1)*k):
  (R.eraseIdx i).flatten[j]?=some (if i*k≤j∧j<i*k+((R.drop (i+1)).flatten).length then ((R.drop (i+1)).flatten)[j-i*k]?.getD default else F j):=by
 have hld:((R.drop (i+1)).flatten).length=(R.length-(i+1))*k:=by rw[z14 _ (fun r hr=>hl r (List.mem_of_mem_drop hr)),List.length_drop]
 have e:((R.take i).flatten).length=i*k:=by rw[z14 _ (fun r hr=>hl r (List.mem_of_mem_take hr)),List.length_take,Nat.min_eq_left (by omega)]
 have hs:(R.length-1)*k=i*k+(R.length-(i+1))*k:=by rw[← Nat.add_mul];congr 1;omega
 have hle:(R.length-1)*k≤R.length*k:=Nat.mul_le_mul_right k (by omega)
 rw[List.eraseIdx_eq_take_drop_succ,List.flatten_append]
 by_cases h:i*k≤j
 ·rw[if_pos ⟨h,by rw[hld];omega⟩,List.getElem?_append_right (by rw[e];exact h),e]
  rw[List.getElem?_eq_getElem (by rw[hld];omega)];rfl
 ·rw[if_neg (fun q=>h q.1),List.getElem?_append_left (by rw[e];omega)]
  have h2:R.flatten=(R.take i).flatten++(R.drop i).flatten:=by rw[← List.flatten_append,List.take_append_drop]
  have h3:=hF j (by omega)
  rw[h2,List.getElem?_append_left (by rw[e];omega)] at h3
  exact h3
theorem z5u (hl:∀ r∈R,r.length=k) (i j:Nat) (hi:i≤R.length):((R.drop i).flatten)[j]?=R.flatten[i*k+j]?:=by
 have h2:R.flatten=(R.take i).flatten++(R.drop i).flatten:=by rw[← List.flatten_append,List.take_append_drop]
 have e:((R.take i).flatten).length=i*k:=by rw[z14 _ (fun r hr=>hl r (List.mem_of_mem_take hr)),List.length_take,Nat.min_eq_left (by omega)]
 rw[h2,List.getElem?_append_right (by rw[e];omega),e,Nat.add_sub_cancel_left]
end
end Go.Proofs.YthkelaeemefnaaaGreat
