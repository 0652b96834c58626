/-
  Parts of the proof; conditions: as each says.
-/
import Derived.RangeFuncNested
import Derived.RangeFuncBound
import Derived.RangeFuncCalls
import Derived.RangeFuncLeaves
import Derived.Shelf.Abstract
import Derived.Shelf.RegionOpen
import Derived.OwnWalkIn
import Derived.TacticsInMore
import Derived.LoopNIn
import Derived.LoopIn
import Derived.Maps.OwnIn
import Derived.Maps.AppendAt
import Derived.RangeFuncRecord
import Derived.Maps.OwnSet
import Derived.Test.YtnmfcaahdeddnaaGreatDoorMgCBIH
namespace Go.Proofs.YtnmfcaahdeddnaaGreatDoor.T5
open Go.RowKit Go.Shelf
def RoundEnd (l:Nat) (rec:LoopState→Option Code→Loop) (R:Ending→World→Prop) : Exit→Act→World→Prop
 | .normal,_,W=>W.heap[l]? = some (.loop (rec .busy none))∧R (.returned (.bool true)) (W.putObj l (.loop (rec .ready none)))
 | .ret,_,W=>W.heap[l]? = some (.loop (rec .busy none))∧R (.returned (.bool false)) (W.putObj l (.loop (rec .done (some .ret))))
 | _,_,_=>False
theorem range_outer {P:Program} {g:Operand} {ps:Array Tmp} {assign body:Code} {Q:Exit→Act→World→Prop} {a:Act} {w:World} {gf:Nat} {lb:Array Value}
 (hg:a.eval g = .func (.func gf) #[] lb) (eg:∀ args w,(callFunc gf args).run P w = .ok (.enter gf args) w)
 (H:∀ rec:LoopState→Option Code→Loop,
  (∀ (xs:Array Value) (W:World) (R:Ending→World→Prop),xs.size=ps.size→W.heap[w.heap.size+1]? = some (.loop (rec .ready none)) →
   assign.wpIn (Fence.wide.inRound (w.heap.size+1)) 0 P (Exit.then (fun a₁ w₁=>w₁.heap[w.heap.size+1]? = some (.loop (rec .ready none)) ∧
    body.wpIn (Fence.wide.inRound (w.heap.size+1)) 0 P (RoundEnd (w.heap.size+1) rec R) a₁ (w₁.putObj (w.heap.size+1) (.loop (rec .busy none)))) (fun _ _ _=>False))
    { tmps:=(ps.zip xs).foldl (fun t (p,v)=>t.setIfInBounds p v) a.tmps,defers:=[] } W →
   YieldAt Fence.wide 0 P (w.heap.size+1) xs W R) →
  CallsIn Fence.wide 0 P gf (#[.func (.yield (w.heap.size+1)) #[] #[]]++lb) ((w.alloc (.deferred (some []))).alloc (.loop (rec .ready none)))
   (fun e W2=>(∃ v,e = .returned v) ∧
    ((W2.heap[w.heap.size+1]? = some (.loop (rec .ready none))∧Q .normal { a with defers:={ target:=.collected w.heap.size,args:=#[] }::a.defers } (W2.putObj (w.heap.size+1) (.loop (rec .exhausted none)))) ∨
     (W2.heap[w.heap.size+1]? = some (.loop (rec .done (some .ret)))∧Code.ret.wpIn Fence.wide 0 P Q { a with defers:={ target:=.collected w.heap.size,args:=#[] }::a.defers } (W2.putObj (w.heap.size+1) (.loop (rec .exhausted (some .ret)))))))) :
 (Code.rangeFunc g ps assign body).wpIn Fence.wide 0 P Q a w:=by
 refine wpIn_rangeFunc ?_
 intro fn hfn
 obtain⟨rec,hrec⟩ : ∃ rec:LoopState→Option Code→Loop,rec=fun st pe=>{ state:=st,pending:=pe,fn,tmps:=a.tmps,params:=ps,assign,body,defers:=w.heap.size }:=⟨_,rfl⟩
 have HH:=H rec
 obtain⟨W1,hW1⟩ : ∃ W1,(w.alloc (.deferred (some []))).alloc (.loop (rec .ready none))=W1:=⟨_,rfl⟩
 rw[hW1] at HH
 refine⟨w.heap.size+1,[{ target:=.collected w.heap.size,args:=#[] }],W1,{ target:=.fn (.func gf) lb,args:=#[.func (.yield (w.heap.size+1)) #[] #[]] },W1,gf,
  #[.func (.yield (w.heap.size+1)) #[] #[]]++lb,W1,?_,?_,?_,?_,(fun h=>by cases h),?_⟩
 ·rw[← hW1,hrec];exact run_enterLoop_outer _ _ _ _ _
 ·simp only[resolve,hg]
  simp[go_sem]
 ·intro f' _
  trivial
 ·simp[invoke,go_sem,eg]
 ·refine (HH ?_).mono ?_
  ·intro xs W R hxs hl hw
   have hy:=run_yield (P:=P) (args:=xs) hl (by rw[hrec];exact hxs)
   rw[hrec] at hy
   refine⟨fn,_,assign,body,hy,roundIn_of_wpIn hfn ?_⟩
   refine wpIn_mono hw ?_
   rintro e a1 w1 he
   cases e with
   | normal =>
     obtain⟨h1,h2⟩:=he
     have hb:=run_beginRound (P:=P) h1 (by rw[hrec])
     refine⟨_,hb,?_⟩
     have e1:({ rec .ready none with state:=.busy } : Loop)=rec .busy none:=by rw[hrec]
     rw[e1]
     refine wpIn_mono h2 ?_
     rintro e a2 w2 he
     cases e with
     | normal =>
       obtain⟨h3,h4⟩:=he
       have hn:=run_endRound (P:=P) none h3
       refine⟨_,_,hn,?_⟩
       have e2:({ rec .busy none with state:=if (none:Option Code).isNone then .ready else .done,pending:=none } : Loop)=rec .ready none:=by rw[hrec];rfl
       rw[e2]
       exact h4
     | ret =>
       obtain⟨h3,h4⟩:=he
       have hn:=run_endRound (P:=P) (some .ret) h3
       refine⟨_,_,hn,?_⟩
       have e2:({ rec .busy none with state:=if (some Code.ret).isNone then .ready else .done,pending:=some .ret } : Loop)=rec .done (some .ret):=by rw[hrec];rfl
       rw[e2]
       exact h4
     | exit id=>exact he.elim
     | goto t=>exact he.elim
     | panic c=>exact he.elim
     | outgrown=>exact he.elim
   | ret=>exact he.elim
   | exit id=>exact he.elim
   | goto t=>exact he.elim
   | panic c=>exact he.elim
   | outgrown=>exact he.elim
  ·rintro e W2 ⟨⟨v,rfl⟩,⟨h1,h2⟩ | ⟨h1,h2⟩⟩
   ·refine⟨none,_,?_,h2⟩
    have:=run_endLoop (P:=P) h1 (by rw[hrec];simp)
    rw[hrec] at this ⊢
    exact this
   ·refine⟨some .ret,_,?_,h2⟩
    have:=run_endLoop (P:=P) h1 (by rw[hrec];simp)
    rw[hrec] at this ⊢
    exact this
theorem blk2 (w:World) (o o' : Obj) : ((w.alloc o).alloc o').heap[w.heap.size+1]? = some o' := by
 have h:=heap_alloc_new (w.alloc o) o'
 rw[show (w.alloc o).heap.size=w.heap.size+1 from by simp] at h
 exact h
theorem own_ne {w:World} {B n:Nat} {e0:TypeId} {size:Nat} {sv:Value} {xs:List Value} (h:w.ownsRow B e0 size sv n xs) {k:Nat} {c:Array Value} {e:TypeId} {z:Nat×Nat} (hk:w.heap[k]? = some (.cells c e z)) (he:e≠e0) : sv.ownBlock≠some k:=by
 rcases h.2 with ⟨rfl,_⟩ | ⟨g,cap,cur,rfl,_,hgg,_⟩
 ·simp[Value.ownBlock]
 ·simp[Value.ownBlock]
  rintro rfl
  rw[hgg] at hk
  simp at hk
  exact he hk.2.1.symm
theorem own_fr {S:List Nat} {w w' : World} {B n:Nat} {e:TypeId} {size:Nat} {sv:Value} {xs:List Value} (h:w.ownsRow B e size sv n xs) (f:Fr S w w') (hS:∀ k,sv.ownBlock=some k→k∉S) : w'.ownsRow B e size sv n xs:=by
 refine⟨h.1,?_⟩
 rcases h.2 with e1 | ⟨g,cap,cur,e1,r1,hgg,r2⟩
 ·exact .inl e1
 ·exact .inr ⟨g,cap,cur,e1,r1,(f.block g (Array.getElem?_eq_some_iff.1 hgg).1 (hS g (by rw[e1];rfl))).trans hgg,r2⟩
theorem own_slice {w:World} {B n:Nat} {e:TypeId} {size:Nat} {v:Value} {xs:List Value} (h:w.ownsRow B e size v n xs) : ∃ a c,v = .slice a n c∧(a=none→n=0∧c=0):=by
 rcases h.2 with ⟨e1,e2⟩ | ⟨g,cap,cur,e1,_⟩
 ·exact⟨none,0,by rw[e1,e2],fun _=>⟨e2,rfl⟩⟩
 ·exact⟨_,cap,e1,fun h=>by cases h⟩
theorem own_notloop {w:World} {B n:Nat} {e0:TypeId} {size:Nat} {sv:Value} {xs:List Value} (h:w.ownsRow B e0 size sv n xs) {k:Nat} {o:Obj} (hk:w.heap[k]? = some o) (ho:∀ c t z,o≠.cells c t z) : sv.ownBlock≠some k:=by
 rcases h.2 with ⟨rfl,_⟩ | ⟨g,cap,cur,rfl,_,hgg,_⟩
 ·simp[Value.ownBlock]
 ·simp[Value.ownBlock]
  rintro rfl
  rw[hgg] at hk
  injection hk with hk
  exact ho _ _ _ hk.symm
theorem at_cells {w:World} {k:Nat} {c:Array Value} {t:TypeId} {z:Nat×Nat} (h:w.heap[k]? = some (.cells c t z)) (i:Nat) {u:Value} (hu:c[i]? = some u) : w.cell? ⟨k,i,none⟩=some u:=by simp[World.cell?,h,hu]
theorem Fr.putObj {W:World} {l:Nat} (o:Obj) : Fr [l] W (W.putObj l o):=Fr.ofGrown (grownBy_putObj' W l o)
theorem store_func (P:Program) (w:World) (a:Addr) (m:Mode) (f:Fn) (x y:Array Value) : (store a (.func f x y) m).run P w=stored P w a (.func f x y) m:=run_store P w a _ m rfl
theorem own_low {w:World} {B B' n:Nat} {e:TypeId} {size:Nat} {v:Value} {xs:List Value} (h:w.ownsRow B e size v n xs) (hB:B'≤B) : w.ownsRow B' e size v n xs :=
 ⟨h.1,h.2.imp id (fun ⟨g,cap,cur,e1,e2,r⟩=>⟨g,cap,cur,e1,Nat.le_trans hB e2,r⟩)⟩
theorem set_same {W:World} {k:Nat} {u v:Value} {t:TypeId} {z:Nat×Nat} (h:W.heap[k]? = some (.cells #[u] t z)) : (W.setCell ⟨k,0,none⟩ v).heap[k]? = some (.cells #[v] t z):=by simp[World.setCell,Array.getElem?_modify,h]
theorem set_other {W:World} {k j:Nat} {v:Value} {o:Obj} (hk:k≠j) (h:W.heap[k]? = some o) : (W.setCell ⟨j,0,none⟩ v).heap[k]? = some o:=(Below.heap_setCell _ _ _ _ (by simpa using hk)).trans h
def RoundEndX (l:Nat) (rec:LoopState→Option Code→Loop) (R:Ending→World→Prop) : Exit→Act→World→Prop
 | .normal,_,W=>W.heap[l]? = some (.loop (rec .busy none))∧R (.returned (.bool true)) (W.putObj l (.loop (rec .ready none)))
 | .ret,_,W=>W.heap[l]? = some (.loop (rec .busy none))∧R (.returned (.bool false)) (W.putObj l (.loop (rec .done (some .ret))))
 | .exit id,_,W=>W.heap[l]? = some (.loop (rec .busy none))∧R (.returned (.bool false)) (W.putObj l (.loop (rec .done (some (.exit id)))))
 | _,_,_=>False
theorem range_brk {P:Program} {g:Operand} {ps:Array Tmp} {assign body:Code} {Q:Exit→Act→World→Prop} {a:Act} {w:World} {gf:Nat} {lb:Array Value}
 (hg:a.eval g = .func (.func gf) #[] lb) (eg:∀ args w,(callFunc gf args).run P w = .ok (.enter gf args) w)
 (H:∀ rec:LoopState→Option Code→Loop,
  (∀ (xs:Array Value) (W:World) (R:Ending→World→Prop),xs.size=ps.size→W.heap[w.heap.size+1]? = some (.loop (rec .ready none)) →
   assign.wpIn (Fence.wide.inRound (w.heap.size+1)) 0 P (Exit.then (fun a₁ w₁=>w₁.heap[w.heap.size+1]? = some (.loop (rec .ready none)) ∧
    body.wpIn (Fence.wide.inRound (w.heap.size+1)) 0 P (RoundEndX (w.heap.size+1) rec R) a₁ (w₁.putObj (w.heap.size+1) (.loop (rec .busy none)))) (fun _ _ _=>False))
    { tmps:=(ps.zip xs).foldl (fun t (p,v)=>t.setIfInBounds p v) a.tmps,defers:=[] } W →
   YieldAt Fence.wide 0 P (w.heap.size+1) xs W R) →
  CallsIn Fence.wide 0 P gf (#[.func (.yield (w.heap.size+1)) #[] #[]]++lb) ((w.alloc (.deferred (some []))).alloc (.loop (rec .ready none)))
   (fun e W2=>(∃ v,e = .returned v) ∧
    ((W2.heap[w.heap.size+1]? = some (.loop (rec .ready none))∧Q .normal { a with defers:={ target:=.collected w.heap.size,args:=#[] }::a.defers } (W2.putObj (w.heap.size+1) (.loop (rec .exhausted none)))) ∨
     (W2.heap[w.heap.size+1]? = some (.loop (rec .done (some .ret)))∧Code.ret.wpIn Fence.wide 0 P Q { a with defers:={ target:=.collected w.heap.size,args:=#[] }::a.defers } (W2.putObj (w.heap.size+1) (.loop (rec .exhausted (some .ret))))) ∨
     (∃ id,W2.heap[w.heap.size+1]? = some (.loop (rec .done (some (.exit id))))∧(Code.exit id).wpIn Fence.wide 0 P Q { a with defers:={ target:=.collected w.heap.size,args:=#[] }::a.defers } (W2.putObj (w.heap.size+1) (.loop (rec .exhausted (some (.exit id))))))))) :
 (Code.rangeFunc g ps assign body).wpIn Fence.wide 0 P Q a w:=by
 refine wpIn_rangeFunc ?_
 intro fn hfn
 obtain⟨rec,hrec⟩ : ∃ rec:LoopState→Option Code→Loop,rec=fun st pe=>{ state:=st,pending:=pe,fn,tmps:=a.tmps,params:=ps,assign,body,defers:=w.heap.size }:=⟨_,rfl⟩
 have HH:=H rec
 obtain⟨W1,hW1⟩ : ∃ W1,(w.alloc (.deferred (some []))).alloc (.loop (rec .ready none))=W1:=⟨_,rfl⟩
 rw[hW1] at HH
 refine⟨w.heap.size+1,[{ target:=.collected w.heap.size,args:=#[] }],W1,{ target:=.fn (.func gf) lb,args:=#[.func (.yield (w.heap.size+1)) #[] #[]] },W1,gf,
  #[.func (.yield (w.heap.size+1)) #[] #[]]++lb,W1,?_,?_,?_,?_,(fun h=>by cases h),?_⟩
 ·rw[← hW1,hrec];exact run_enterLoop_outer _ _ _ _ _
 ·simp only[resolve,hg]
  simp[go_sem]
 ·intro f' _
  trivial
 ·simp[invoke,go_sem,eg]
 ·refine (HH ?_).mono ?_
  ·intro xs W R hxs hl hw
   have hy:=run_yield (P:=P) (args:=xs) hl (by rw[hrec];exact hxs)
   rw[hrec] at hy
   refine⟨fn,_,assign,body,hy,roundIn_of_wpIn hfn ?_⟩
   refine wpIn_mono hw ?_
   rintro e a1 w1 he
   cases e with
   | normal =>
     obtain⟨h1,h2⟩:=he
     have hb:=run_beginRound (P:=P) h1 (by rw[hrec])
     refine⟨_,hb,?_⟩
     have e1:({ rec .ready none with state:=.busy } : Loop)=rec .busy none:=by rw[hrec]
     rw[e1]
     refine wpIn_mono h2 ?_
     rintro e a2 w2 he
     cases e with
     | normal =>
       obtain⟨h3,h4⟩:=he
       have hn:=run_endRound (P:=P) none h3
       refine⟨_,_,hn,?_⟩
       have e2:({ rec .busy none with state:=if (none:Option Code).isNone then .ready else .done,pending:=none } : Loop)=rec .ready none:=by rw[hrec];rfl
       rw[e2]
       exact h4
     | ret =>
       obtain⟨h3,h4⟩:=he
       have hn:=run_endRound (P:=P) (some .ret) h3
       refine⟨_,_,hn,?_⟩
       have e2:({ rec .busy none with state:=if (some Code.ret).isNone then .ready else .done,pending:=some .ret } : Loop)=rec .done (some .ret):=by rw[hrec];rfl
       rw[e2]
       exact h4
     | exit id =>
       obtain⟨h3,h4⟩:=he
       have hn:=run_endRound (P:=P) (some (.exit id)) h3
       refine⟨_,_,hn,?_⟩
       have e2:({ rec .busy none with state:=if (some (Code.exit id)).isNone then .ready else .done,pending:=some (.exit id) } : Loop)=rec .done (some (.exit id)):=by rw[hrec];rfl
       rw[e2]
       exact h4
     | goto t=>exact he.elim
     | panic c=>exact he.elim
     | outgrown=>exact he.elim
   | ret=>exact he.elim
   | exit id=>exact he.elim
   | goto t=>exact he.elim
   | panic c=>exact he.elim
   | outgrown=>exact he.elim
  ·rintro e W2 ⟨⟨v,rfl⟩,⟨h1,h2⟩ | ⟨h1,h2⟩ | ⟨id,h1,h2⟩⟩
   ·refine⟨none,_,?_,h2⟩
    have:=run_endLoop (P:=P) h1 (by rw[hrec];simp)
    rw[hrec] at this ⊢
    exact this
   ·refine⟨some .ret,_,?_,h2⟩
    have:=run_endLoop (P:=P) h1 (by rw[hrec];simp)
    rw[hrec] at this ⊢
    exact this
   ·refine⟨some (.exit id),_,?_,h2⟩
    have:=run_endLoop (P:=P) h1 (by rw[hrec];simp)
    rw[hrec] at this ⊢
    exact this
attribute [local go_sem] Oper.semAt_some store_func
theorem back_any (a:Option Addr) (n c:Nat) (w:World) :
 Calls Tryz.prog 145 #[.slice a n c] w fun e w'=>e = .returned (.func (.func 179) #[] #[.pointer (some ⟨w.heap.size,0,none⟩)])∧w' = w.alloc (.cells #[.slice a n c] 26):=by
 go_enter Tryz.func145,Tryz.ntmps145
 go_wp2
 go_ret
 exact⟨rfl,rfl⟩
set_option maxRecDepth 100000 in
set_option maxHeartbeats 1000000 in
theorem back1 (G:Nat→World→Prop) (bx l B:Nat) (a:Option Addr) (c:Nat) (ks:List Int) (hm:ks.length≤2600000000000)
 (hK:∀ j W,G j W→W.heap[bx]? = some (.cells #[.slice a ks.length c] 26 (0,0))∧KAt B W a ks)
 (hY:∀ j k W,ks.reverse[j]? = some k→G j W→YieldAt Fence.wide 0 Tryz.prog l #[.int .i64 ((ks.length-1-j:Nat) : Int),.int .i64 k] W (fun e W'=>e = .returned (.bool true)∧G (j+1) W'))
 (W:World) (h0:G 0 W) :
 CallsIn Fence.wide 0 Tryz.prog 179 #[.func (.yield l) #[] #[],.pointer (some ⟨bx,0,none⟩)] W fun e W'=>(∃ v,e = .returned v)∧G ks.length W' := by
 refine callsIn_of_wp Tryz.func179 rfl trivial ?_ rfl
 simp only[Tryz.ntmps179,List.size_toArray,List.length_cons,List.length_nil,Nat.reduceAdd,Nat.reduceSub,Array.replicate_succ,Array.replicate_zero,List.push_toArray,List.append_toArray,List.nil_append,List.cons_append]
 have cb:=at_cells (hK 0 W h0).1 0 rfl
 have hm' : (ks.length:Int)≤2600000000000:=by omega
 gi_wp2
 gi_loopw [3] (fun i wr=>∃ j:Nat,j≤ks.length∧i = .int .i64 ((ks.length:Int)-1-j)∧G j wr) (fun i _=>(intOf i+1).toNat)
 case atStart=>exact⟨0,Nat.zero_le _,by simp,h0⟩
 case round =>
  obtain⟨j,hj,rfl,hg⟩:=hrel
  obtain⟨hb,hk⟩:=hK j wr hg
  have cb2:=at_cells hb 0 rfl
  by_cases hlt:j<ks.length
  ·have e1:(ks.length:Int)-1-j=((ks.length-1-j:Nat) : Int):=by omega
   have hx:ks[ks.length-1-j]? = some (ks[ks.length-1-j]'(by omega)):=List.getElem?_eq_getElem _
   have hr:ks.reverse[j]? = some (ks[ks.length-1-j]'(by omega)):=by rw[List.getElem?_reverse hlt];exact hx
   generalize ks[ks.length-1-j]'(by omega)=k at hx hr
   obtain⟨b,o,rfl,hbB,hcell⟩:=hk _ k hx
   obtain⟨fn,tmps,assign,body,hy,hR⟩:=hY j k wr hr hg
   rw[e1]
   have hlt2:ks.length-1-j<ks.length:=by omega
   have HQ:Hid (ks.length-1-j+j+1=ks.length):=by unfold Hid;omega
   generalize ks.length-1-j=q at *
   clear hx hr cb e1
   gi_wp2
   refine⟨rfl,hR.mono ?_⟩
   rintro e W' ⟨rfl,hG'⟩
   clear hR hy
   gi_wp2
   go_roundw
   case rel=>exact⟨j+1,hlt,by have:=HQ.out;go_num,hG'⟩
   case measure=>simp[intOf]
  ·have:j=ks.length:=by omega
   subst this
   gi_wp2
   go_end0
   exact⟨⟨_,rfl⟩,hg⟩
end Go.Proofs.YtnmfcaahdeddnaaGreatDoor.T5
