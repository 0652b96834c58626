/-
  Parts of the proof; conditions: as each says.
-/
import Derived.Laws.AppendOwn
import Derived.Test.YtnmfcaahdeddnaaGreatDoorMgEAAP
namespace Go.Proofs.YtnmfcaahdeddnaaGreatDoor.T5
open Go.RowKit
set_option maxRecDepth 100000
set_option linter.unusedVariables false
set_option linter.unusedSimpArgs false
theorem Fr.ofGrown {w w' : World} {row:Option Nat} (hg:w.grownBy w' row) : Fr row.toList w w' :=
 Fr.grown (Fr.refl _ _) hg (fun k e=>.inl (by rw[e];simp))
/-! What the document says of one node. -/
theorem nodes_in {L:List Nd} : ∀ (n:Nat) (T:List Bool),nodesL L n = .ok T→∀ (i:Nat) (x:Nd),i<n→L[i]? = some x→∀ k∈x.ks,0≤k∧k<i
 | 0,T,h,i,x,hi,hx,k,hk=>by omega
 | n+1,T,h,i,x,hi,hx,k,hk=>by
   unfold nodesL at h
   split at h
   ·cases h
   ·rename_i T0 h0
    by_cases e:i=n
    ·subst e
     rw[hx] at h
     simp only at h
     split at h
     ·cases h
     ·rename_i T1 h1
      unfold nodeE at h1
      split at h1
      ·cases h1
      ·split at h1
       ·cases h1
       ·split at h1
        ·cases h1
        ·rename_i ht2
         exact take_in _ _ _ ht2 k hk
    ·exact nodes_in n T0 h0 i x (by omega) hx k hk
theorem check_zero {L:List Nd} {p:Nat} (h:checkL L=(p,0)) : ∃ T,nodesL L L.length = .ok T∧L.length≠0∧L.length≤50000∧kd L ((L.length-1:Nat) : Int)=1∧has0 T (L.length-1)=false:=by
 by_cases h0:50000<L.length
 ·rw[check_long h0] at h;cases h
 ·cases hn:nodesL L L.length with
  | error e =>
    rw[check_err h0 hn] at h
    exfalso
    subst h
    have:∀ n,nodesL L n≠.error (p,0):=by
     intro n
     induction n with
     | zero=>intro e;cases e
     | succ n ih =>
       intro e
       unfold nodesL at e
       split at e
       ·rename_i e2 he2
        cases e
        exact ih he2
       ·split at e
        ·cases e
        ·split at e
         ·rename_i er he
          cases e
          have:=node_err he
          omega
         ·cases e
    exact this _ hn
  | ok T =>
    by_cases hz:L.length=0
    ·rw[check_empty hz] at h;cases h
    ·by_cases hb:kd L ((L.length-1:Nat) : Int)≠1∨has0 T (L.length-1)=true
     ·rw[check_last h0 hn hz hb] at h;cases h
     ·refine⟨T,rfl,hz,by omega,?_,?_⟩
      ·exact Decidable.byContradiction fun hh=>hb (.inl hh)
      ·cases hh:has0 T (L.length-1) with
       | false=>rfl
       | true=>exact absurd (.inr hh) hb
end Go.Proofs.YtnmfcaahdeddnaaGreatDoor.T5
namespace Go.Proofs.YtnmfcaahdeddnaaGreatDoor.T5
open Go.RowKit
set_option linter.unusedVariables false
set_option linter.unusedSimpArgs false
def kN (L:List Nd) (n:Nat) : List Nat:=match L[n]? with | some x=>x.ks.map Int.toNat | none=>[]
def Ahead (L:List Nd) : Prop:=∀ (i:Nat) (x:Nd),L[i]? = some x→∀ k∈x.ks,0≤k∧k<i
theorem Ahead.kid {L:List Nd} (h:Ahead L) {n k:Nat} (hk:k∈kN L n) : k<n:=by
 unfold kN at hk
 cases hx:L[n]? with
 | none=>rw[hx] at hk;simp at hk
 | some x =>
   rw[hx] at hk
   simp only[List.mem_map] at hk
   obtain⟨q,hq,rfl⟩:=hk
   have:=h n x hx q hq
   omega
def walkL (L:List Nd) : Nat→Nat→Nat→List (Nat×Nat)
 | 0,_,_=>[]
 | f+1,n,d=>(n,d)::(kN L n).flatMap (fun k=>walkL L f k (d+1))
def wk (L:List Nd) (n d:Nat) : List (Nat×Nat):=walkL L (n+1) n d
theorem flat_congr {α β:Type} {l:List α} {f g:α→List β} (h:∀ x∈l,f x=g x) : l.flatMap f=l.flatMap g:=by
 induction l with
 | nil=>rfl
 | cons a r ih=>rw[List.flatMap_cons,List.flatMap_cons,h a (by simp),ih (fun x hx=>h x (by simp[hx]))]
theorem walk_fuel {L:List Nd} (h:Ahead L) : ∀ (f f' n d:Nat),n<f→n<f'→walkL L f n d=walkL L f' n d:=by
 intro f
 induction f with
 | zero=>intro f' n d h1;omega
 | succ f ih =>
   intro f' n d h1 h2
   cases f' with
   | zero=>omega
   | succ f' =>
     simp only[walkL]
     congr 1
     exact flat_congr (fun k hk=>by have:=h.kid hk;exact ih f' k (d+1) (by omega) (by omega))
theorem wk_eq {L:List Nd} (h:Ahead L) (n d:Nat) : wk L n d=(n,d)::(kN L n).flatMap (fun k=>wk L k (d+1)):=by
 unfold wk
 rw[walkL]
 congr 1
 exact flat_congr (fun k hk=>by have:=h.kid hk;exact walk_fuel h _ _ k (d+1) (by omega) (by omega))
theorem wk_pos {L:List Nd} (h:Ahead L) (n d:Nat) : 1≤(wk L n d).length:=by rw[wk_eq h];simp
def rem (L:List Nd) (S:List (Nat×Nat)) : List (Nat×Nat):=S.reverse.flatMap (fun t=>wk L t.1 t.2)
theorem rem_pop {L:List Nd} (h:Ahead L) (S:List (Nat×Nat)) (t:Nat×Nat) : rem L (S++[t])=t::rem L (S++(kN L t.1).reverse.map (fun k=>(k,t.2+1))):=by
 unfold rem
 simp only[List.reverse_append,List.reverse_cons,List.reverse_nil,List.nil_append,List.flatMap_append,List.singleton_append,List.flatMap_cons,List.flatMap_nil,List.append_nil]
 rw[wk_eq h]
 simp only[List.cons_append,← List.map_reverse,List.reverse_reverse]
 congr 2
 rw[List.flatMap_map]
theorem rem_len {L:List Nd} (h:Ahead L) (S:List (Nat×Nat)) : S.length≤(rem L S).length:=by
 unfold rem
 rw[← List.length_reverse]
 generalize S.reverse=R
 induction R with
 | nil=>simp
 | cons t r ih =>
   have:=wk_pos h t.1 t.2
   simp only[List.flatMap_cons,List.length_append,List.length_cons]
   omega
/-! Each just once. -/
def sumN:Nat→(Nat→Nat)→Nat
 | 0,_=>0
 | n+1,f=>sumN n f+f n
theorem sumN_congr {n:Nat} {f g:Nat→Nat} (h:∀ i,i<n→f i=g i) : sumN n f=sumN n g:=by
 induction n with
 | zero=>rfl
 | succ n ih=>simp only[sumN];rw[ih (fun i hi=>h i (by omega)),h n (by omega)]
theorem sumN_add (n:Nat) (f g:Nat→Nat) : sumN n (fun i=>f i+g i)=sumN n f+sumN n g:=by
 induction n with
 | zero=>rfl
 | succ n ih=>simp only[sumN,ih];omega
theorem sumN_zero {n:Nat} {f:Nat→Nat} (h:∀ i,i<n→f i=0) : sumN n f=0:=by
 induction n with
 | zero=>rfl
 | succ n ih=>simp only[sumN];rw[ih (fun i hi=>h i (by omega)),h n (by omega)]
theorem sumN_one (n a:Nat) (g:Nat→Nat) (h:a<n) : sumN n (fun p=>if a=p then g p else 0)=g a:=by
 induction n with
 | zero=>omega
 | succ n ih =>
   simp only[sumN]
   by_cases e:a=n
   ·subst e
    rw[sumN_zero (fun i hi=>by rw[if_neg (by omega)]),if_pos rfl];omega
   ·rw[ih (by omega),if_neg e];omega
theorem sumN_ones (n:Nat) : sumN n (fun _=>1)=n:=by
 induction n with
 | zero=>rfl
 | succ n ih=>simp only[sumN,ih]
theorem sum_count {n:Nat} (g:Nat→Nat) : ∀ (W:List Nat),(∀ p∈W,p<n)→(W.map g).sum=sumN n (fun p=>W.count p*g p)
 | [],_=>by simp[sumN_zero]
 | a::W,h=>by
   rw[List.map_cons,List.sum_cons,sum_count g W (fun p hp=>h p (by simp[hp])),← sumN_one n a g (h a (by simp)),← sumN_add]
   refine sumN_congr fun i hi=>?_
   rw[List.count_cons]
   by_cases e:a=i
   ·subst e;simp[Nat.add_mul];omega
   ·simp[e]
def wn (L:List Nd) (n d:Nat) : List Nat:=(wk L n d).map Prod.fst
theorem wn_eq {L:List Nd} (h:Ahead L) (n d:Nat) : wn L n d=n::(kN L n).flatMap (fun k=>wn L k (d+1)):=by
 unfold wn
 rw[wk_eq h,List.map_cons,List.map_flatMap]
def Sg (L:List Nd) (m:Nat) (W:List Nat) : Nat:=(W.map (fun p=>(kN L p).count m)).sum
theorem count_flat {L:List Nd} (m:Nat) (g:Nat→List Nat) : ∀ (ks:List Nat),(∀ k∈ks,(g k).count m=(if k=m then 1 else 0)+Sg L m (g k))→(ks.flatMap g).count m=ks.count m+Sg L m (ks.flatMap g)
 | [],_=>by simp[Sg]
 | k::r,h=>by
   rw[List.flatMap_cons,List.count_append,h k (by simp),count_flat m g r (fun q hq=>h q (by simp[hq])),List.count_cons]
   unfold Sg
   rw[List.map_append,List.sum_append]
   simp only[beq_iff_eq]
   omega
theorem count_walk {L:List Nd} (h:Ahead L) (m:Nat) : ∀ (n d:Nat),(wn L n d).count m=(if n=m then 1 else 0)+Sg L m (wn L n d):=by
 intro n
 induction n using Nat.strongRecOn with
 | ind n ih =>
   intro d
   rw[wn_eq h,List.count_cons,count_flat m (fun k=>wn L k (d+1)) (kN L n) (fun k hk=>ih k (h.kid hk) (d+1))]
   unfold Sg
   rw[List.map_cons,List.sum_cons]
   simp only[beq_iff_eq]
   omega
theorem wn_le {L:List Nd} (h:Ahead L) : ∀ (n d:Nat),∀ p∈wn L n d,p≤n:=by
 intro n
 induction n using Nat.strongRecOn with
 | ind n ih =>
   intro d p hp
   rw[wn_eq h] at hp
   simp only[List.mem_cons,List.mem_flatMap] at hp
   rcases hp with rfl | ⟨k,hk,hp⟩
   ·omega
   ·have:=ih k (h.kid hk) (d+1) p hp
    have:=h.kid hk
    omega
theorem wk_sum {L:List Nd} (h:Ahead L) : ∀ (n d:Nat),∀ t∈wk L n d,t.1+t.2≤n+d:=by
 intro n
 induction n using Nat.strongRecOn with
 | ind n ih =>
   intro d t ht
   rw[wk_eq h] at ht
   simp only[List.mem_cons,List.mem_flatMap] at ht
   rcases ht with rfl | ⟨k,hk,ht⟩
   ·simp
   ·have:=ih k (h.kid hk) (d+1) t ht
    have:=h.kid hk
    omega
def b2n (b:Bool) : Nat:=if b then 1 else 0
theorem take_count {n:Nat} : ∀ (ks:List Int) (T T' : List Bool),takeL n ks T=some T'→n≤T.length→∀ m,(ks.map Int.toNat).count m+b2n (T.getD m false)=b2n (T'.getD m false)
 | [],T,T',h,_,m=>by simp[takeL] at h;subst h;simp
 | k::r,T,T',h,hn,m=>by
   simp only[takeL] at h
   split at h
   ·cases h
   ·rename_i hk
    have ih:=take_count r _ _ h (by simpa using hn) m
    rw[← ih,List.map_cons,List.count_cons]
    have hT:T.getD k.toNat false=false:=by
     cases hh:T.getD k.toNat false with
     | false=>rfl
     | true=>exact absurd (.inr (.inr hh)) hk
    have hlt:k.toNat<T.length:=by
     have:¬ (k<0):=fun e=>hk (.inl e)
     have:¬ ((n:Int)≤k):=fun e=>hk (.inr (.inl e))
     omega
    by_cases e:k.toNat=m
    ·subst e
     have:(T.set k.toNat true).getD k.toNat false=true:=by simp[List.getD_eq_getElem?_getD,List.getElem?_set_self hlt]
     rw[this,hT]
     simp[b2n]
    ·have:(T.set k.toNat true).getD m false=T.getD m false:=by simp[List.getD_eq_getElem?_getD,List.getElem?_set_ne e]
     rw[this]
     simp[e]
theorem nodes_count {L:List Nd} : ∀ (n:Nat) (T:List Bool),nodesL L n = .ok T→n≤L.length→∀ m,sumN n (fun i=>(kN L i).count m)=b2n (T.getD m false)
 | 0,T,h,_,m=>by
   simp only[nodesL,Except.ok.injEq] at h
   subst h
   simp only[sumN,b2n,List.getD_eq_getElem?_getD,List.getElem?_replicate]
   split <;> simp_all
 | n+1,T,h,hn,m=>by
   unfold nodesL at h
   split at h
   ·cases h
   ·rename_i T0 h0
    have ih:=nodes_count n T0 h0 (by omega) m
    have hl:=nodes_length n T0 h0
    have hx:L[n]? = some (L[n]'(by omega)):=List.getElem?_eq_getElem _
    generalize L[n]'(by omega)=x at hx
    rw[hx] at h
    simp only at h
    split at h
    ·cases h
    ·rename_i T1 h1
     cases h
     unfold nodeE at h1
     split at h1
     ·cases h1
     ·split at h1
      ·cases h1
      ·split at h1
       ·cases h1
       ·rename_i T2 ht2
        split at h1
        ·cases h1
        ·split at h1
         ·cases h1
         ·cases h1
          have:=take_count _ _ _ ht2 (by omega) m
          simp only[sumN]
          rw[ih,← this]
          unfold kN
          rw[hx]
          simp only
          omega
theorem has0_get {T:List Bool} {n:Nat} (h:has0 T n=false) (hn:n≤T.length) {m:Nat} (hm:m<n) : T.getD m false=true:=by
 unfold has0 at h
 cases hb:T.getD m false with
 | true=>rfl
 | false =>
   have:false∈T.take n:=by
    have hm' : m<T.length:=by omega
    rw[List.getD_eq_getElem?_getD,List.getElem?_eq_getElem hm'] at hb
    have:(T.take n)[m]? = some false:=by rw[List.getElem?_take_of_lt hm,List.getElem?_eq_getElem hm'];simpa using hb
    exact List.mem_of_getElem? this
   have:=List.contains_iff_mem.2 this
   rw[this] at h
   cases h
theorem tree_once {L:List Nd} {p:Nat} (hc:checkL L=(p,0)) : Ahead L∧0<L.length∧L.length≤50000∧(∀ m,m<L.length→(wn L (L.length-1) 0).count m=1)∧(wk L (L.length-1) 0).length=L.length:=by
 obtain⟨T,hn,hz,h5,_,h0⟩:=check_zero hc
 have hA:Ahead L:=fun i x hx=>nodes_in _ _ hn i x (List.getElem?_eq_some_iff.1 hx).1 hx
 have hl:=nodes_length _ _ hn
 have hle:∀ q∈wn L (L.length-1) 0,q<L.length:=fun q hq=>by have:=wn_le hA _ _ q hq;omega
 have one:∀ j,∀ m,m<L.length→L.length-1-m=j→(wn L (L.length-1) 0).count m=1:=by
  intro j
  induction j using Nat.strongRecOn with
  | ind j ih =>
    intro m hm hj
    rw[count_walk hA]
    unfold Sg
    rw[sum_count _ _ hle]
    have e1:sumN L.length (fun q=>(wn L (L.length-1) 0).count q*(kN L q).count m)=sumN L.length (fun q=>(kN L q).count m):=by
     refine sumN_congr fun q hq=>?_
     by_cases hqm:m<q
     ·rw[ih (L.length-1-q) (by omega) q hq rfl,Nat.one_mul]
     ·have:(kN L q).count m=0:=List.count_eq_zero.2 (fun hmem=>by have:=hA.kid hmem;omega)
      rw[this,Nat.mul_zero]
    rw[e1,nodes_count _ _ hn (Nat.le_refl _)]
    by_cases e:L.length-1=m
    ·rw[if_pos e]
     have:=nodes_count _ _ hn (Nat.le_refl _) m
     rw[← this,sumN_zero (fun q hq=>List.count_eq_zero.2 (fun hmem=>by have:=hA.kid hmem;omega))]
    ·rw[if_neg e,has0_get h0 (by omega) (by omega)]
     rfl
 have one' : ∀ m,m<L.length→(wn L (L.length-1) 0).count m=1:=fun m hm=>one _ m hm rfl
 refine⟨hA,by omega,h5,one',?_⟩
 have:=sum_count (fun _=>1) _ hle
 rw[List.map_const',List.sum_replicate_nat] at this
 have e:(wn L (L.length-1) 0).length=L.length:=by
  rw[show (wn L (L.length-1) 0).length=(wn L (L.length-1) 0).length*1 from by omega,this,sumN_congr (g:=fun _=>1) (fun q hq=>by rw[one' q hq]),sumN_ones]
 unfold wn at e
 simpa using e
end Go.Proofs.YtnmfcaahdeddnaaGreatDoor.T5
