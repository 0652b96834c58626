/-
  Parts of the proof; conditions: as each says.
-/
import Derived.RangeFuncNested
import Derived.RangeFuncBound
import Derived.RangeFuncCalls
import Derived.RangeFuncLeaves
import Derived.Shelf.Abstract
import Derived.Shelf.RegionOpen
import Derived.OwnWalkIn
import Derived.TacticsInMore
import Derived.LoopNIn
import Derived.LoopIn
import Derived.Maps.OwnIn
import Derived.Maps.AppendAt
import Derived.RangeFuncRecord
import Derived.Maps.OwnSet
import Derived.Test.YtnmfcaahdeddnaaGreatDoorMgDGBA
set_option maxRecDepth 100000
namespace Go.Proofs.YtnmfcaahdeddnaaGreatDoor
open Go.RowKit Go.Shelf
set_option maxRecDepth 100000
def RoundEnd (l:Nat) (rec:LoopState→Option Code→Loop) (R:Ending→World→Prop) : Exit→Act→World→Prop
 | .normal,_,W=>W.heap[l]? = some (.loop (rec .busy none))∧R (.returned (.bool true)) (W.putObj l (.loop (rec .ready none)))
 | .ret,_,W=>W.heap[l]? = some (.loop (rec .busy none))∧R (.returned (.bool false)) (W.putObj l (.loop (rec .done (some .ret))))
 | _,_,_=>False
theorem range_outer {P:Program} {g:Operand} {ps:Array Tmp} {assign body:Code} {Q:Exit→Act→World→Prop} {a:Act} {w:World} {gf:Nat} {lb:Array Value}
 (hg:a.eval g = .func (.func gf) #[] lb) (eg:∀ args w,(callFunc gf args).run P w = .ok (.enter gf args) w)
 (H:∀ rec:LoopState→Option Code→Loop,
  (∀ (xs:Array Value) (W:World) (R:Ending→World→Prop),xs.size=ps.size→W.heap[w.heap.size+1]? = some (.loop (rec .ready none)) →
   assign.wpIn (Fence.wide.inRound (w.heap.size+1)) 0 P (Exit.then (fun a₁ w₁=>w₁.heap[w.heap.size+1]? = some (.loop (rec .ready none)) ∧
    body.wpIn (Fence.wide.inRound (w.heap.size+1)) 0 P (RoundEnd (w.heap.size+1) rec R) a₁ (w₁.putObj (w.heap.size+1) (.loop (rec .busy none)))) (fun _ _ _=>False))
    { tmps:=(ps.zip xs).foldl (fun t (p,v)=>t.setIfInBounds p v) a.tmps,defers:=[] } W →
   YieldAt Fence.wide 0 P (w.heap.size+1) xs W R) →
  CallsIn Fence.wide 0 P gf (#[.func (.yield (w.heap.size+1)) #[] #[]]++lb) ((w.alloc (.deferred (some []))).alloc (.loop (rec .ready none)))
   (fun e W2=>(∃ v,e = .returned v) ∧
    ((W2.heap[w.heap.size+1]? = some (.loop (rec .ready none))∧Q .normal { a with defers:={ target:=.collected w.heap.size,args:=#[] }::a.defers } (W2.putObj (w.heap.size+1) (.loop (rec .exhausted none)))) ∨
     (W2.heap[w.heap.size+1]? = some (.loop (rec .done (some .ret)))∧Code.ret.wpIn Fence.wide 0 P Q { a with defers:={ target:=.collected w.heap.size,args:=#[] }::a.defers } (W2.putObj (w.heap.size+1) (.loop (rec .exhausted (some .ret)))))))) :
 (Code.rangeFunc g ps assign body).wpIn Fence.wide 0 P Q a w:=by
 refine wpIn_rangeFunc ?_
 intro fn hfn
 obtain⟨rec,hrec⟩ : ∃ rec:LoopState→Option Code→Loop,rec=fun st pe=>{ state:=st,pending:=pe,fn,tmps:=a.tmps,params:=ps,assign,body,defers:=w.heap.size }:=⟨_,rfl⟩
 have HH:=H rec
 obtain⟨W1,hW1⟩ : ∃ W1,(w.alloc (.deferred (some []))).alloc (.loop (rec .ready none))=W1:=⟨_,rfl⟩
 rw[hW1] at HH
 refine⟨w.heap.size+1,[{ target:=.collected w.heap.size,args:=#[] }],W1,{ target:=.fn (.func gf) lb,args:=#[.func (.yield (w.heap.size+1)) #[] #[]] },W1,gf,
  #[.func (.yield (w.heap.size+1)) #[] #[]]++lb,W1,?_,?_,?_,?_,(fun h=>by cases h),?_⟩
 ·rw[← hW1,hrec];exact run_enterLoop_outer _ _ _ _ _
 ·simp only[resolve,hg]
  simp[go_sem]
 ·intro f' _
  trivial
 ·simp[invoke,go_sem,eg]
 ·refine (HH ?_).mono ?_
  ·intro xs W R hxs hl hw
   have hy:=run_yield (P:=P) (args:=xs) hl (by rw[hrec];exact hxs)
   rw[hrec] at hy
   refine⟨fn,_,assign,body,hy,roundIn_of_wpIn hfn ?_⟩
   refine wpIn_mono hw ?_
   rintro e a1 w1 he
   cases e with
   | normal =>
     obtain⟨h1,h2⟩:=he
     have hb:=run_beginRound (P:=P) h1 (by rw[hrec])
     refine⟨_,hb,?_⟩
     have e1:({ rec .ready none with state:=.busy } : Loop)=rec .busy none:=by rw[hrec]
     rw[e1]
     refine wpIn_mono h2 ?_
     rintro e a2 w2 he
     cases e with
     | normal =>
       obtain⟨h3,h4⟩:=he
       have hn:=run_endRound (P:=P) none h3
       refine⟨_,_,hn,?_⟩
       have e2:({ rec .busy none with state:=if (none:Option Code).isNone then .ready else .done,pending:=none } : Loop)=rec .ready none:=by rw[hrec];rfl
       rw[e2]
       exact h4
     | ret =>
       obtain⟨h3,h4⟩:=he
       have hn:=run_endRound (P:=P) (some .ret) h3
       refine⟨_,_,hn,?_⟩
       have e2:({ rec .busy none with state:=if (some Code.ret).isNone then .ready else .done,pending:=some .ret } : Loop)=rec .done (some .ret):=by rw[hrec];rfl
       rw[e2]
       exact h4
     | exit id=>exact he.elim
     | goto t=>exact he.elim
     | panic c=>exact he.elim
     | outgrown=>exact he.elim
   | ret=>exact he.elim
   | exit id=>exact he.elim
   | goto t=>exact he.elim
   | panic c=>exact he.elim
   | outgrown=>exact he.elim
  ·rintro e W2 ⟨⟨v,rfl⟩,⟨h1,h2⟩ | ⟨h1,h2⟩⟩
   ·refine⟨none,_,?_,h2⟩
    have:=run_endLoop (P:=P) h1 (by rw[hrec];simp)
    rw[hrec] at this ⊢
    exact this
   ·refine⟨some .ret,_,?_,h2⟩
    have:=run_endLoop (P:=P) h1 (by rw[hrec];simp)
    rw[hrec] at this ⊢
    exact this
theorem blk2 (w:World) (o o' : Obj) : ((w.alloc o).alloc o').heap[w.heap.size+1]? = some o' := by
 have h:=heap_alloc_new (w.alloc o) o'
 rw[show (w.alloc o).heap.size=w.heap.size+1 from by simp] at h
 exact h
theorem own_ne {w:World} {B n:Nat} {e0:TypeId} {size:Nat} {sv:Value} {xs:List Value} (h:w.ownsRow B e0 size sv n xs) {k:Nat} {c:Array Value} {e:TypeId} {z:Nat×Nat} (hk:w.heap[k]? = some (.cells c e z)) (he:e≠e0) : sv.ownBlock≠some k:=by
 rcases h.2 with ⟨rfl,_⟩ | ⟨g,cap,cur,rfl,_,hgg,_⟩
 ·simp[Value.ownBlock]
 ·simp[Value.ownBlock]
  rintro rfl
  rw[hgg] at hk
  simp at hk
  exact he hk.2.1.symm
theorem own_fr {S:List Nat} {w w' : World} {B n:Nat} {e:TypeId} {size:Nat} {sv:Value} {xs:List Value} (h:w.ownsRow B e size sv n xs) (f:Fr S w w') (hS:∀ k,sv.ownBlock=some k→k∉S) : w'.ownsRow B e size sv n xs:=by
 refine⟨h.1,?_⟩
 rcases h.2 with e1 | ⟨g,cap,cur,e1,r1,hgg,r2⟩
 ·exact .inl e1
 ·exact .inr ⟨g,cap,cur,e1,r1,(f.block g (Array.getElem?_eq_some_iff.1 hgg).1 (hS g (by rw[e1];rfl))).trans hgg,r2⟩
theorem Fr.ofGrown {w w' : World} {row:Option Nat} (h:w.grownBy w' row) : Fr row.toList w w' := Fr.grown (Fr.refl _ _) h (fun k hk=>.inl (by simp[hk]))
theorem own_slice {w:World} {B n:Nat} {e:TypeId} {size:Nat} {v:Value} {xs:List Value} (h:w.ownsRow B e size v n xs) : ∃ a c,v = .slice a n c∧(a=none→n=0∧c=0):=by
 rcases h.2 with ⟨e1,e2⟩ | ⟨g,cap,cur,e1,_⟩
 ·exact⟨none,0,by rw[e1,e2],fun _=>⟨e2,rfl⟩⟩
 ·exact⟨_,cap,e1,fun h=>by cases h⟩
theorem own_notloop {w:World} {B n:Nat} {e0:TypeId} {size:Nat} {sv:Value} {xs:List Value} (h:w.ownsRow B e0 size sv n xs) {k:Nat} {o:Obj} (hk:w.heap[k]? = some o) (ho:∀ c t z,o≠.cells c t z) : sv.ownBlock≠some k:=by
 rcases h.2 with ⟨rfl,_⟩ | ⟨g,cap,cur,rfl,_,hgg,_⟩
 ·simp[Value.ownBlock]
 ·simp[Value.ownBlock]
  rintro rfl
  rw[hgg] at hk
  injection hk with hk
  exact ho _ _ _ hk.symm
theorem at_cells {w:World} {k:Nat} {c:Array Value} {t:TypeId} {z:Nat×Nat} (h:w.heap[k]? = some (.cells c t z)) (i:Nat) {u:Value} (hu:c[i]? = some u) : w.cell? ⟨k,i,none⟩=some u:=by simp[World.cell?,h,hu]
theorem Fr.putObj {W:World} {l:Nat} (o:Obj) : Fr [l] W (W.putObj l o):=Fr.ofGrown (grownBy_putObj' W l o)
theorem store_func (P:Program) (w:World) (a:Addr) (m:Mode) (f:Fn) (x y:Array Value) : (store a (.func f x y) m).run P w=stored P w a (.func f x y) m:=run_store P w a _ m rfl
/-! The tokens of a text from a place on. -/
theorem readL_to {p:Nat} {l:List UInt8} {t:Tok} (hl:l≠[]) (h:readL p l = .ok t) : p<t.to∧t.to≤p+l.length:=by
 obtain⟨c,r,rfl⟩ : ∃ c r,l=c::r:=by
  cases l with
  | nil=>exact absurd rfl hl
  | cons c r=>exact⟨c,r,rfl⟩
 have hr:=runL_le (c::r)
 have hs:=signL_le (c::r)
 unfold readL at h
 simp only[List.getD_cons_zero] at h
 have run1:isWd c.toNat=true→1≤runL (c::r):=fun hw=>by simp[runL,hw]
 split at h
 ·rename_i h2
  have:=run1 ((kind_wd _).1 (.inl h2))
  injection h with h
  subst h
  simp
  simp at hr
  omega
 ·split at h
  ·rename_i h3
   have:=run1 ((kind_wd _).1 (.inr h3))
   split at h
   ·cases h
   ·injection h with h
    subst h
    simp
    simp at hr
    omega
  ·split at h
   ·split at h
    ·cases h
    ·injection h with h
     subst h
     simp
     omega
   ·split at h
    ·cases h
    ·rename_i hz
     injection h with h
     subst h
     simp
     simp at hs
     omega
theorem scanL_fuel:∀ (f f' p:Nat) (l:List UInt8),l.length<f→l.length<f'→scanL f p l=scanL f' p l:=by
 intro f
 induction f with
 | zero=>intro f' p l h;omega
 | succ f ih =>
   intro f' p l h h'
   cases f' with
   | zero=>omega
   | succ f' =>
     simp only[scanL]
     split
     ·rfl
     ·rename_i hsk
      have hle:=skipL_le false l
      cases hr:readL (p+skipL false l) (l.drop (skipL false l)) with
      | error e=>rfl
      | ok t =>
        have hne:l.drop (skipL false l)≠[]:=fun e=>by
         have:=congrArg List.length e
         simp at this
         omega
        have ht:=readL_to hne hr
        simp only
        rw[ih f' t.to (l.drop (t.to-p)) (by simp;omega) (by simp;omega)]
def sc (s:ByteArray) (k:Nat) : List Tok×Option (Nat×Nat):=scanL (s.size+1) k (s.data.toList.drop k)
theorem sc_end {s:ByteArray} {k:Nat} (hk:k≤s.size) (h:s.size≤skE s k) : sc s k=([],none):=by
 have hl:(s.data.toList.drop k).length=s.size-k:=by rw[List.length_drop,← Lib.size_eq]
 unfold sc
 simp only[scanL]
 rw[if_pos]
 unfold skE at h
 have:=skipL_le false (s.data.toList.drop k)
 omega
theorem sc_err {s:ByteArray} {k e:Nat} (h:skE s k<s.size) (hr:rd s (skE s k) = .error e) : sc s k=([],some (skE s k,e)):=by
 have hl:(s.data.toList.drop k).length=s.size-k:=by rw[List.length_drop,← Lib.size_eq]
 unfold rd at hr
 unfold sc
 simp only[scanL]
 have h' := h
 unfold skE at h'
 rw[if_neg (by omega),List.drop_drop]
 rw[show k+skipL false (List.drop k s.data.toList)=skE s k from rfl,hr]
theorem sc_ok {s:ByteArray} {k:Nat} {t:Tok} (h:skE s k<s.size) (hr:rd s (skE s k) = .ok t) : sc s k=(t::(sc s t.to).1,(sc s t.to).2)∧skE s k<t.to∧t.to≤s.size:=by
 have hl:(s.data.toList.drop k).length=s.size-k:=by rw[List.length_drop,← Lib.size_eq]
 have hl2:(s.data.toList.drop (skE s k)).length=s.size-skE s k:=by rw[List.length_drop,← Lib.size_eq]
 have h' := h
 unfold skE at h'
 have hne:s.data.toList.drop (skE s k)≠[]:=fun e=>by rw[e] at hl2;simp at hl2;omega
 unfold rd at hr
 have ht:=readL_to hne hr
 rw[hl2] at ht
 refine⟨?_,by omega,by omega⟩
 have hr' : readL (k+skipL false (List.drop k s.data.toList)) (List.drop (skipL false (List.drop k s.data.toList)) (List.drop k s.data.toList)) = .ok t:=by
  rw[List.drop_drop];exact hr
 unfold sc
 conv=>lhs;simp only[scanL]
 rw[if_neg (by omega),hr']
 simp only
 have hkt:k≤t.to:=by unfold skE at ht;omega
 rw[List.drop_drop,show k+(t.to-k)=t.to from by omega]
 have hl3:(s.data.toList.drop t.to).length=s.size-t.to:=by rw[List.length_drop,← Lib.size_eq]
 rw[scanL_fuel s.size (s.size+1) t.to (s.data.toList.drop t.to) (by omega) (by omega)]
attribute [local go_sem] Oper.semAt_some store_func
abbrev Res:=Sum (List Tok) (Sum (List Tok×Nat×Nat) (List Tok))
def walkT (go:List Tok→Bool) : List Tok→List Tok→Option (Nat×Nat)→Res
 | d,[],none=>.inl d
 | d,[],some x=>.inr (.inl (d,x.1,x.2))
 | d,t::ts,er=>if go (d++[t]) then walkT go (d++[t]) ts er else .inr (.inr (d++[t]))
def Mine (bx M:Nat) (W W' : World) : Prop:=∃ S,Fr S W W'∧∀ j,j∈S→7≤j∧j≠bx∧j<M
theorem tokens_any (s:ByteArray) (w:World) :
 Calls Tryz.prog 72 #[.string s] w fun e w'=>e = .returned (.func (.func 104) #[] #[.pointer (some ⟨w.heap.size,0,none⟩)])∧w' = w.alloc (.cells #[.string s] 9):=by
 go_enter Tryz.func72,Tryz.ntmps72
 go_wp2
 go_ret
 exact⟨rfl,rfl⟩
theorem rd_ne0 {s:ByteArray} {k e:Nat} (h:rd s k = .error e) : e≠0:=by
 unfold rd readL at h
 repeat (first | (cases h;omega) | cases h | split at h)
 all_goals simp_all
set_option maxHeartbeats 2000000 in
theorem tokens1 (go:List Tok→Bool) (G:List Tok→World→Prop) (Q:Res→World→Prop) (s:ByteArray) (hs:s.size≤200000) (bx l:Nat)
 (hE:∀ d W,G d W→Q (.inl d) W)
 (hY1:∀ d t W0 W,d.length+1≤s.size→G d W0→Fr [] W0 W→Tabs W→YieldAt Fence.wide 0 Tryz.prog l #[.agg (tokA t),.int .i64 0] W (fun e W'=>e = .returned (.bool (go (d++[t])))∧Mine bx W0.heap.size W W'∧(if go (d++[t]) then G (d++[t]) W' else Q (.inr (.inr (d++[t]))) W')))
 (hY2:∀ d p er W0 W,G d W0→Fr [] W0 W→Tabs W→er≠0→YieldAt Fence.wide 0 Tryz.prog l #[.agg #[.int .i64 0,.string ⟨#[]⟩,.int .i64 (p:Nat),.int .i64 0,.int .i64 0],.int .i64 (er:Nat)] W (fun e W'=>(∃ b,e = .returned (.bool b))∧Q (.inr (.inl (d,p,er))) W'))
 (W:World) (h0:G [] W) (T0:Tabs W) (b0:W.heap[bx]? = some (.cells #[.string s] 9 (0,0))) :
 CallsIn Fence.wide 0 Tryz.prog 104 #[.func (.yield l) #[] #[],.pointer (some ⟨bx,0,none⟩)] W fun e W'=>(∃ v,e = .returned v)∧Q (walkT go [] (sc s 0).1 (sc s 0).2) W' := by
 have hs40:s.size≤2 ^ 40:=by omega
 have hsM:s.size≤maxLen:=by unfold maxLen;omega
 have hs' : (s.size:Int)≤200000:=by omega
 have HS:Hid (s.size≤200000):=hs
 clear hs
 refine callsIn_of_wp Tryz.func104 rfl trivial ?_ rfl
 simp only[Tryz.ntmps104,List.size_toArray,List.length_cons,List.length_nil,Nat.reduceAdd,Nat.reduceSub,Array.replicate_succ,Array.replicate_zero,List.push_toArray,List.append_toArray,List.nil_append,List.cons_append]
 have cb:=at_cells b0 0 rfl
 gi_wp2
 refine⟨trivial,rfl,(callsIn_wide.2 (skip_any s 0 W hsM (Nat.zero_le _) T0)).mono ?_⟩
 rintro e W ⟨rfl,rfl⟩
 have hk0:=skE_le s 0 (Nat.zero_le _)
 gi_wp2
 gi_loopw [3] (fun at_ wr=>∃ k d,k≤s.size∧Hid (d.length≤k)∧at_ = .int .i64 ((skE s k:Nat) : Int)∧G d wr∧Tabs wr∧wr.heap[bx]? = some (.cells #[.string s] 9 (0,0))∧Hid (walkT go d (sc s k).1 (sc s k).2=walkT go [] (sc s 0).1 (sc s 0).2)) (fun at_ _=>s.size-(intOf at_).toNat)
 case atStart=>exact⟨0,[],Nat.zero_le _,Nat.zero_le _,rfl,h0,T0,b0,rfl⟩
 case round =>
  obtain⟨k,d,hk,hdk,rfl,hg,hT,hb,hr⟩:=hrel
  have hkl:=skE_le s k hk
  have cb2:=at_cells hb 0 rfl
  by_cases hlt:skE s k<s.size
  ·have hread:=fun w T=>read_any s (skE s k) w hs40 hlt T
   unfold rdOut at hread
   cases hrd:rd s (skE s k) with
   | error er =>
     have hsc:=sc_err hlt hrd
     rw[hrd] at hread
     have hne:=rd_ne0 hrd
     have hres:Hid (walkT go [] (sc s 0).1 (sc s 0).2 = .inr (.inl (d,skE s k,er))):=by
      show _=_
      rw[← hr.out,hsc]
      rfl
     simp only[rdA,rdE] at hread
     have hne' : ((er:Int) != 0)=true:=by simp;omega
     generalize skE s k=K at *
     clear hsc hrd hr hne
     gi_wp2
     refine⟨trivial,rfl,(callsIn_wide.2 (hread wr hT)).mono ?_⟩
     rintro e w2 ⟨rfl,hF⟩
     have hF3:Fr [] wr (w2.alloc (.cells #[.int .i64 0,.string ⟨#[]⟩,.int .i64 K,.int .i64 0,.int .i64 0] 82)):=hF.alloc _
     obtain⟨fn,tmps,assign,body,hy,hRnd⟩:=hY2 d K er wr _ hg hF3 (hT.fr hF3 (by simp)) (by intro h;rw[h] at hne';simp at hne')
     gi_wp2
     refine⟨rfl,hRnd.mono ?_⟩
     rintro e W' ⟨⟨b,rfl⟩,hQ⟩
     clear hRnd hy
     cases b
     ·gi_wp2
      refine bodyPost_ret (results_none rfl _ _ _) rfl ?_
      rw[hres.out]
      exact⟨⟨_,rfl⟩,hQ⟩
     ·gi_wp2
      refine bodyPost_ret (results_none rfl _ _ _) rfl ?_
      rw[hres.out]
      exact⟨⟨_,rfl⟩,hQ⟩
   | ok t =>
     obtain⟨hsc,hto1,hto2⟩:=sc_ok hlt hrd
     rw[hrd] at hread
     have hres:Hid (walkT go [] (sc s 0).1 (sc s 0).2=if go (d++[t]) then walkT go (d++[t]) (sc s t.to).1 (sc s t.to).2 else .inr (.inr (d++[t]))):=by
      show _=_
      rw[← hr.out,hsc]
      rfl
     have hdl:Hid (d.length+1≤t.to):=by have:=hdk.out;show _≤_;omega
     have hY:=hY1 d t wr
     simp only[rdA,rdE,tokA] at hread hY
     have hskip:=fun w T=>skip_any s t.to w hsM hto2 T
     have hkt:=skE_le s t.to hto2
     generalize skE s k=K at *
     clear hsc hrd hr
     generalize (t.kind:Int)=x0 at hread hY
     generalize (⟨t.text.toArray⟩ : ByteArray)=X at hread hY
     generalize (t.frm:Int)=x2 at hread hY
     generalize (t.n:Int)=x4 at hread hY
     gi_wp2
     refine⟨trivial,rfl,(callsIn_wide.2 (hread wr hT)).mono ?_⟩
     rintro e w2 ⟨rfl,hF⟩
     have hF3:Fr [] wr (w2.alloc (.cells #[.int .i64 x0,.string X,.int .i64 x2,.int .i64 t.to,.int .i64 x4] 82)):=hF.alloc _
     have u3:=TB.new w2 (.int .i64 x0) (.string X) (.int .i64 x2) (.int .i64 t.to) (.int .i64 x4)
     obtain⟨fn,tmps,assign,body,hy,hRnd⟩:=hY _ (Nat.le_trans hdl.out hto2) hg hF3 (hT.fr hF3 (by simp))
     have hT3:=hT.fr hF3 (by simp)
     have hb3:=(hF3.block _ (Array.getElem?_eq_some_iff.1 hb).1 (by simp)).trans hb
     have hCz:Hid (wr.heap.size≤w2.heap.size):=hF.size
     gi_wp2
     refine⟨rfl,hRnd.mono ?_⟩
     rintro e W' ⟨rfl,hM,hGQ⟩
     clear hRnd hy hY hread
     generalize w2.alloc (.cells #[.int .i64 x0,.string X,.int .i64 x2,.int .i64 t.to,.int .i64 x4] 82)=w3 at *
     generalize w2.heap.size=C at *
     have hlow:Hid (bx<wr.heap.size):=(Array.getElem?_eq_some_iff.1 hb).1
     obtain⟨S,hFS,hS⟩:=hM
     have u4:TB W' C _ _ _ _ _:=u3.fr hFS (fun hm=>by have:=(hS C hm).2.2;have:=hCz.out;omega)
     have b4:=(hFS.block _ (Array.getElem?_eq_some_iff.1 hb3).1 (fun hm=>(hS bx hm).2.1 rfl)).trans hb3
     have T4:=hT3.fr hFS (fun j hj=>(hS j hj).1)
     have cx:=at_cells b4 0 rfl
     have ct:=u4.c3
     clear hS hFS u3 hb3 hT3 hF3 hF hT hb cb2 cb
     cases hgo:go (d++[t])
     ·rw[hgo] at hres hGQ
      simp only[Bool.false_eq_true,if_false] at hres hGQ
      gi_wp2
      refine bodyPost_ret (results_none rfl _ _ _) rfl ?_
      rw[hres.out]
      exact⟨⟨_,rfl⟩,hGQ⟩
     ·rw[hgo] at hres hGQ
      simp only[if_true] at hres hGQ
      gi_wp2
      refine⟨trivial,rfl,(callsIn_wide.2 (hskip W' T4)).mono ?_⟩
      rintro e W' ⟨rfl,rfl⟩
      gi_wp2
      go_roundw
      case rel=>exact⟨t.to,d++[t],hto2,(by have:=hdl.out;show _≤_;simp;exact this),rfl,hGQ,T4,b4,hres.out.symm⟩
      case measure=>simp[intOf];omega
  ·have hsc:=sc_end hk (by omega)
   have hres:Hid (walkT go [] (sc s 0).1 (sc s 0).2 = .inl d):=by
    show _=_
    rw[← hr.out,hsc]
    rfl
   gi_wp2
   go_end0
   rw[hres.out]
   exact⟨⟨_,rfl⟩,hE d _ hg⟩
attribute [local go_sem] Oper.semAt_some store_func
theorem under42:Tryz.prog.underlying 74=some (.slice 82):=by kernel_rfl
theorem info56:(Tryz.prog.info? 82).map (fun i=>(i.zero,i.size,i.bytes))=some (some (.agg #[.int .i64 0,.string ⟨#[]⟩,.int .i64 0,.int .i64 0,.int .i64 0]),5,48):=by kernel_rfl
def flatT:List Tok→List Value
 | []=>[]
 | t::r=>(tokA t).toList++flatT r
theorem flatT_append (a b:List Tok) : flatT (a++b)=flatT a++flatT b:=by
 induction a with
 | nil=>rfl
 | cons t r ih=>simp[flatT,ih]
theorem flatT_one (t:Tok) : flatT [t]=(tokA t).toList:=by simp[flatT]
theorem tok_new (w:World) (v0 v1 v2 v3 v4:Value) : ∀ j u,[v0,v1,v2,v3,v4][j]? = some u→(w.alloc (.cells #[v0,v1,v2,v3,v4] 82)).cell? ((⟨w.heap.size,0,none⟩ : Addr).add j)=some u:=by
 intro j u hu
 have hadd:(⟨w.heap.size,0,none⟩ : Addr).add j = ⟨w.heap.size,j,none⟩:=by unfold Addr.add;split <;> simp_all
 rw[hadd]
 exact at_cells (heap_alloc_new w _) j (by simpa using hu)
structure SG (w0:World) (N l D:Nat) (rec:LoopState→Option Code→Loop) (d:List Tok) (W:World) : Prop where
 old:Fr [] w0 W
 r0:W.heap[N]? = some (.cells #[.slice none 0 0] 74 (0,0))
 r1:W.heap[N+1]? = some (.cells #[.int .i64 0] 3 (0,0))
 r2:W.heap[N+1+1]? = some (.cells #[.int .i64 0] 29 (0,0))
 box:∃ sv,W.heap[N+1+1+1]? = some (.cells #[sv] 74 (0,0))∧W.ownsRow (N+7) 82 5 sv d.length (flatT d)
 rd:W.heap[l]? = some (.loop (rec .ready none))
 dfr:W.heap[D]? = some (.deferred (some []))
 len:d.length≤200000
def SQ (w0:World) (N l D:Nat) (rec:LoopState→Option Code→Loop) : Res→World→Prop
 | .inl d,W=>SG w0 N l D rec d W
 | .inr (.inl (_,p,e)),W=>Fr [] w0 W∧W.heap[N]? = some (.cells #[.slice none 0 0] 74 (0,0))∧W.heap[N+1]? = some (.cells #[.int .i64 (p:Nat)] 3 (0,0))∧W.heap[N+1+1]? = some (.cells #[.int .i64 (e:Nat)] 29 (0,0))∧W.heap[l]? = some (.loop (rec .done (some .ret)))∧W.heap[D]? = some (.deferred (some []))
 | .inr (.inr _),_=>False
theorem SG.fr {w0:World} {N l D:Nat} {rec:LoopState→Option Code→Loop} {d:List Tok} {W W' : World} (h:SG w0 N l D rec d W) (f:Fr [] W W') : SG w0 N l D rec d W' := by
 have kp:∀ {k o},W.heap[k]? = some o→W'.heap[k]? = some o:=fun hk=>(f.block _ (Array.getElem?_eq_some_iff.1 hk).1 (by simp)).trans hk
 obtain⟨sv,hb,ho⟩:=h.box
 exact⟨h.old.trans f,kp h.r0,kp h.r1,kp h.r2,⟨sv,kp hb,own_fr ho f (fun _ _=>by simp)⟩,kp h.rd,kp h.dfr,h.len⟩
def scOut (s:ByteArray) (w w' : World) (e:Ending) : Prop :=
 match sc s 0 with
 | (ts,none)=>∃ v,e = .returned (.tuple #[v,.int .i64 0,.int .i64 0])∧w'.ownsRow w.heap.size 82 5 v (ts.length+1) (flatT (ts++[⟨0,[],s.size,s.size,0⟩]))
 | (_,some (p,c))=>e = .returned (.tuple #[.slice none 0 0,.int .i64 (p:Nat),.int .i64 (c:Nat)])
theorem scOut_some {s:ByteArray} {w w' : World} {ts:List Tok} {p c:Nat} (h:sc s 0=(ts,some (p,c))) : scOut s w w' (.returned (.tuple #[.slice none 0 0,.int .i64 (p:Nat),.int .i64 (c:Nat)])):=by
 unfold scOut;rw[h]
theorem scOut_none {s:ByteArray} {w w' : World} {ts:List Tok} {v:Value} (h:sc s 0=(ts,none)) (ho:w'.ownsRow w.heap.size 82 5 v (ts.length+1) (flatT (ts++[⟨0,[],s.size,s.size,0⟩]))) : scOut s w w' (.returned (.tuple #[v,.int .i64 0,.int .i64 0])):=by
 unfold scOut;rw[h];exact⟨v,rfl,ho⟩
theorem blkN (w:World) (a b c d:Obj) : (((((w.alloc a).alloc b).alloc c).alloc d)).heap.size=w.heap.size+4:=by simp
theorem walkT_all (d ts:List Tok) (er:Option (Nat×Nat)) : walkT (fun _=>true) d ts er=match er with | none=>.inl (d++ts) | some x=>.inr (.inl ((d++ts),x.1,x.2)):=by
 induction ts generalizing d with
 | nil=>cases er <;> simp[walkT]
 | cons t ts ih =>
   simp only[walkT,if_true]
   rw[ih]
   cases er <;> simp
theorem own_low {w:World} {B B' n:Nat} {e:TypeId} {size:Nat} {v:Value} {xs:List Value} (h:w.ownsRow B e size v n xs) (hB:B'≤B) : w.ownsRow B' e size v n xs :=
 ⟨h.1,h.2.imp id (fun ⟨g,cap,cur,e1,e2,r⟩=>⟨g,cap,cur,e1,Nat.le_trans hB e2,r⟩)⟩
theorem set_same {W:World} {k:Nat} {u v:Value} {t:TypeId} {z:Nat×Nat} (h:W.heap[k]? = some (.cells #[u] t z)) : (W.setCell ⟨k,0,none⟩ v).heap[k]? = some (.cells #[v] t z):=by simp[World.setCell,Array.getElem?_modify,h]
theorem set_other {W:World} {k j:Nat} {v:Value} {o:Obj} (hk:k≠j) (h:W.heap[k]? = some o) : (W.setCell ⟨j,0,none⟩ v).heap[k]? = some o:=(Below.heap_setCell _ _ _ _ (by simpa using hk)).trans h
theorem set3 {w X1:World} {N l D:Nat} {p er:Int} {r:Loop} {r' : Loop} (hN:N=w.heap.size) (q0:X1.heap[N]? = some (.cells #[.slice none 0 0] 74 (0,0))) (q1:X1.heap[N+1]? = some (.cells #[.int .i64 0] 3 (0,0))) (q2:X1.heap[N+1+1]? = some (.cells #[.int .i64 0] 29 (0,0)))
 (hl:X1.heap[l]? = some (.loop r)) (hd:X1.heap[D]? = some (.deferred (some []))) (l1:N+1+1<l) (l2:N+1+1<D) (l3:D≠l) (hO:Fr [] w X1) (X2:World) (hX:X2=(((X1.setCell ⟨N,0,none⟩ (.slice none 0 0)).setCell ⟨N+1,0,none⟩ (.int .i64 p)).setCell ⟨N+1+1,0,none⟩ (.int .i64 er)).drew) :
 X2.heap[l]? = some (.loop r)∧Fr [] w (X2.putObj l (.loop r'))∧(X2.putObj l (.loop r')).heap[N]? = some (.cells #[.slice none 0 0] 74 (0,0))∧(X2.putObj l (.loop r')).heap[N+1]? = some (.cells #[.int .i64 p] 3 (0,0))∧(X2.putObj l (.loop r')).heap[N+1+1]? = some (.cells #[.int .i64 er] 29 (0,0))∧(X2.putObj l (.loop r')).heap[l]? = some (.loop r')∧(X2.putObj l (.loop r')).heap[D]? = some (.deferred (some [])):=by
 have A0:X2.heap[N]? = some (.cells #[.slice none 0 0] 74 (0,0)):=by
  rw[hX];exact set_other (by omega) (set_other (by omega) (set_same q0))
 have A1:X2.heap[N+1]? = some (.cells #[.int .i64 p] 3 (0,0)):=by
  rw[hX];exact set_other (by omega) (set_same (set_other (by omega) q1))
 have A2:X2.heap[N+1+1]? = some (.cells #[.int .i64 er] 29 (0,0)):=by
  rw[hX];exact set_same (set_other (by omega) (set_other (by omega) q2))
 have f5:Fr [N,N+1,N+1+1] X1 X2:=by
  rw[hX];exact ((((Fr.refl _ _).setCell (.inl (by simp)) _).setCell (.inl (by simp)) _).setCell (.inl (by simp)) _).drew
 have D2:=(f5.block _ (Array.getElem?_eq_some_iff.1 hd).1 (by simp;omega)).trans hd
 have L2:=(f5.block _ (Array.getElem?_eq_some_iff.1 hl).1 (by simp;omega)).trans hl
 have O2:Fr [] w X2:=((hO.sub (T:=[N,N+1,N+1+1]) (by simp)).trans f5).sub (fun k hk=>.inr (by simp at hk;omega))
 have f6:=Fr.putObj (W:=X2) (l:=l) (.loop r')
 have k6:∀ {k:Nat} {o:Obj},k≠l→X2.heap[k]? = some o→(X2.putObj l (.loop r')).heap[k]? = some o:=fun hk h1=>(World.putObj_heap_other hk).trans h1
 exact⟨L2,((O2.sub (T:=[l]) (by simp)).trans f6).sub (fun k hk=>.inr (by simp at hk;omega)),k6 (by omega) A0,k6 (by omega) A1,k6 (by omega) A2,World.putObj_heap_same (Array.getElem?_eq_some_iff.1 L2).1,k6 l3 D2⟩
set_option maxHeartbeats 4000000 in
theorem scan_any (s:ByteArray) (w:World) (hs:s.size≤200000) (T:Tabs w) :
 Calls Tryz.prog 40 #[.string s] w fun e w'=>scOut s w w' e∧Fr [] w w' := by
 obtain⟨i5,hi,hz,hz1,hby⟩:=info_parts info56
 have HS:Hid (s.size≤200000):=hs
 refine callsIn_wide.1 (callsIn_of_wp_marks (n:=0) Tryz.func40 rfl trivial ?_ rfl)
 simp only[Tryz.ntmps40,List.size_toArray,List.length_cons,List.length_nil,Nat.reduceAdd,Nat.reduceSub,Array.replicate_succ,Array.replicate_zero,List.push_toArray,List.append_toArray,List.nil_append,List.cons_append]
 gi_wp2
 have F0:Fr [] w ((((w.alloc (.cells #[.slice none 0 0] 74)).alloc (.cells #[.int .i64 0] 3)).alloc (.cells #[.int .i64 0] 29)).alloc (.cells #[.slice none 0 0] 74)):=((((Fr.refl _ _).alloc _).alloc _).alloc _).alloc _
 have R0:((((w.alloc (.cells #[.slice none 0 0] 74)).alloc (.cells #[.int .i64 0] 3)).alloc (.cells #[.int .i64 0] 29)).alloc (.cells #[.slice none 0 0] 74)).heap[w.heap.size]? = some (.cells #[.slice none 0 0] 74 (0,0)):=by
  rw[Below.heap_alloc _ _ _ (by simp;omega),Below.heap_alloc _ _ _ (by simp;omega),Below.heap_alloc _ _ _ (by simp)]
  exact heap_alloc_new w _
 have R1:((((w.alloc (.cells #[.slice none 0 0] 74)).alloc (.cells #[.int .i64 0] 3)).alloc (.cells #[.int .i64 0] 29)).alloc (.cells #[.slice none 0 0] 74)).heap[w.heap.size+1]? = some (.cells #[.int .i64 0] 3 (0,0)):=by
  rw[Below.heap_alloc _ _ _ (by simp),Below.heap_alloc _ _ _ (by simp)]
  exact blk2 w _ _
 have R2:((((w.alloc (.cells #[.slice none 0 0] 74)).alloc (.cells #[.int .i64 0] 3)).alloc (.cells #[.int .i64 0] 29)).alloc (.cells #[.slice none 0 0] 74)).heap[w.heap.size+1+1]? = some (.cells #[.int .i64 0] 29 (0,0)):=by
  rw[Below.heap_alloc _ _ _ (by simp)]
  have:=blk2 (w.alloc (.cells #[.slice none 0 0] 74)) (.cells #[.int .i64 0] 3) (.cells #[.int .i64 0] 29)
  simpa using this
 have R3:((((w.alloc (.cells #[.slice none 0 0] 74)).alloc (.cells #[.int .i64 0] 3)).alloc (.cells #[.int .i64 0] 29)).alloc (.cells #[.slice none 0 0] 74)).heap[w.heap.size+1+1+1]? = some (.cells #[.slice none 0 0] 74 (0,0)):=by
  have:=blk2 ((w.alloc (.cells #[.slice none 0 0] 74)).alloc (.cells #[.int .i64 0] 3)) (.cells #[.int .i64 0] 29) (.cells #[.slice none 0 0] 74)
  simpa using this
 have hs0:=blkN w (.cells #[.slice none 0 0] 74) (.cells #[.int .i64 0] 3) (.cells #[.int .i64 0] 29) (.cells #[.slice none 0 0] 74)
 generalize (((w.alloc (.cells #[.slice none 0 0] 74)).alloc (.cells #[.int .i64 0] 3)).alloc (.cells #[.int .i64 0] 29)).alloc (.cells #[.slice none 0 0] 74)=w0 at *
 refine⟨trivial,rfl,(callsIn_wide.2 (tokens_any s w0)).mono ?_⟩
 rintro e w1 ⟨rfl,rfl⟩
 have F1:Fr [] w0 (w0.alloc (.cells #[.string s] 9)):=(Fr.refl _ _).alloc _
 have B1:(w0.alloc (.cells #[.string s] 9)).heap[w0.heap.size]? = some (.cells #[.string s] 9 (0,0)):=heap_alloc_new w0 _
 have hs1:(w0.alloc (.cells #[.string s] 9)).heap.size=w.heap.size+5:=by simp[hs0]
 rw[hs0] at B1 ⊢
 have G1:=F0.trans F1
 have kp:∀ {k o},w0.heap[k]? = some o→(w0.alloc (.cells #[.string s] 9)).heap[k]? = some o:=fun hk=>(F1.block _ (Array.getElem?_eq_some_iff.1 hk).1 (by simp)).trans hk
 have R0:=kp R0
 have R1:=kp R1
 have R2:=kp R2
 have R3:=kp R3
 clear kp
 generalize w0.alloc (.cells #[.string s] 9)=w1 at *
 have HS1:Hid (w1.heap.size=w.heap.size+5):=hs1
 clear hs1 hs0 F0 F1
 gi_wp2
 refine range_outer (gf:=104) (lb:=#[.pointer (some ⟨w.heap.size+4,0,none⟩)]) rfl (enters_of Tryz.func104 (by kernel_rfl) rfl) ?_
 intro rec hYr
 show CallsIn Fence.wide 0 Tryz.prog 104 #[.func (.yield (w1.heap.size+1)) #[] #[],.pointer (some ⟨w.heap.size+4,0,none⟩)] _ _
 have f2:Fr [] w1 ((w1.alloc (.deferred (some []))).alloc (.loop (rec .ready none))):=((Fr.refl _ _).alloc _).alloc _
 have hL2:=blk2 w1 (.deferred (some [])) (.loop (rec .ready none))
 have hD2:((w1.alloc (.deferred (some []))).alloc (.loop (rec .ready none))).heap[w1.heap.size]? = some (.deferred (some [])):=(Below.heap_alloc _ _ _ (by simp)).trans (heap_alloc_new w1 _)
 have hs2:((w1.alloc (.deferred (some []))).alloc (.loop (rec .ready none))).heap.size=w1.heap.size+2:=by simp
 generalize (w1.alloc (.deferred (some []))).alloc (.loop (rec .ready none))=w2 at *
 have hD:w1.heap.size=w.heap.size+5:=HS1.out
 rw[hD] at hL2 hD2 hs2 hYr ⊢
 have G2:=G1.trans f2
 have kp:∀ {k o},w1.heap[k]? = some o→w2.heap[k]? = some o:=fun hk=>(f2.block _ (Array.getElem?_eq_some_iff.1 hk).1 (by simp)).trans hk
 have T2:=T.fr G2 (by simp)
 have hN3:7≤w.heap.size:=T.len
 refine (tokens1 (fun _=>true) (SG w w.heap.size (w.heap.size+5+1) (w.heap.size+5) rec) (SQ w w.heap.size (w.heap.size+5+1) (w.heap.size+5) rec) s hs (w.heap.size+4) (w.heap.size+5+1)
  (fun d W h=>h) ?_ ?_ w2 ⟨G2,kp R0,kp R1,kp R2,⟨_,kp R3,World.ownsRow_nil _ _ _ _⟩,hL2,hD2,by simp⟩ T2 (kp B1)).mono ?_
 ·intro d t X0 X hdl hg0 hF hT
  have hg:=hg0.fr hF
  have hta:Hid (flatT (d++[t])=flatT d++[.int .i64 t.kind,.string ⟨t.text.toArray⟩,.int .i64 t.frm,.int .i64 t.to,.int .i64 t.n]):=by
   show _=_
   rw[flatT_append,flatT_one]
   rfl
  unfold tokA
  generalize (t.kind:Int)=x0 at hta ⊢
  generalize (⟨t.text.toArray⟩ : ByteArray)=x1 at hta ⊢
  generalize (t.frm:Int)=x2 at hta ⊢
  generalize (t.to:Int)=x3 at hta ⊢
  generalize (t.n:Int)=x4 at hta ⊢
  have HD:Hid (w1.heap.size=w.heap.size+5):=hD
  have HDL:Hid (d.length+1≤200000):=Nat.le_trans hdl HS.out
  have HX0:Hid (w.heap.size+6<X0.heap.size):=(Array.getElem?_eq_some_iff.1 hg0.rd).1
  clear hD HS1 hdl
  refine hYr _ X _ rfl hg.rd ?_
  clear hYr
  gi_wp2
  have hgA:=hg.fr (Fr.alloc (Fr.refl _ X) (.cells #[.int .i64 x0,.string x1,.int .i64 x2,.int .i64 x3,.int .i64 x4] 82))
  have uA:=TB.new X (.int .i64 x0) (.string x1) (.int .i64 x2) (.int .i64 x3) (.int .i64 x4)
  have fA:Fr [] X (X.alloc (.cells #[.int .i64 x0,.string x1,.int .i64 x2,.int .i64 x3,.int .i64 x4] 82)):=(Fr.refl _ _).alloc _
  refine⟨hgA.rd,?_⟩
  have hXs:Hid (w.heap.size+6<X.heap.size):=(Array.getElem?_eq_some_iff.1 hg.rd).1
  have hloX:∃ sv0,Hid (∀ k,sv0.ownBlock=some k→w.heap.size+7≤k∧k<X0.heap.size)∧X.heap[w.heap.size+1+1+1]? = some (.cells #[sv0] 74 (0,0)):=by
   obtain⟨sv0,hb0,ho0⟩:=hg0.box
   exact⟨sv0,fun k hk=>ho0.lt k hk,(hF.block _ (Array.getElem?_eq_some_iff.1 hb0).1 (by simp)).trans hb0⟩
  obtain⟨sv0,hl0,hb0⟩:=hloX
  generalize X.alloc (.cells #[.int .i64 x0,.string x1,.int .i64 x2,.int .i64 x3,.int .i64 x4] 82)=XA at *
  obtain⟨sv,hb,ho⟩:=hgA.box
  obtain rfl:sv0=sv:=by
   have:=(fA.block _ (Array.getElem?_eq_some_iff.1 hb0).1 (by simp)).trans hb0
   rw[hb] at this
   simp at this
   exact this.symm
  clear hb0
  generalize hCC:X.heap.size=C at *
  have hbl:=(Array.getElem?_eq_some_iff.1 hgA.rd).1
  have f1:=Fr.putObj (W:=XA) (l:=w.heap.size+5+1) (.loop (rec .busy none))
  have hz1' := World.putObj_heap_same (w:=XA) (r:=w.heap.size+5+1) (o:=.loop (rec .busy none)) hbl
  have q0:(XA.putObj (w.heap.size+5+1) (.loop (rec .busy none))).heap[w.heap.size]? = _:=(World.putObj_heap_other (by omega)).trans hgA.r0
  have q1:(XA.putObj (w.heap.size+5+1) (.loop (rec .busy none))).heap[w.heap.size+1]? = _:=(World.putObj_heap_other (by omega)).trans hgA.r1
  have q2:(XA.putObj (w.heap.size+5+1) (.loop (rec .busy none))).heap[w.heap.size+1+1]? = _:=(World.putObj_heap_other (by omega)).trans hgA.r2
  have hb1:(XA.putObj (w.heap.size+5+1) (.loop (rec .busy none))).heap[w.heap.size+1+1+1]? = _:=(World.putObj_heap_other (by omega)).trans hb
  have hd1:(XA.putObj (w.heap.size+5+1) (.loop (rec .busy none))).heap[w.heap.size+5]? = _:=(World.putObj_heap_other (by omega)).trans hgA.dfr
  have u1:TB (XA.putObj (w.heap.size+5+1) (.loop (rec .busy none))) C _ _ _ _ _:=uA.fr f1 (by simp;have:=hXs.out;omega)
  have ho1:=own_fr ho f1 (fun k hk=>by simp;have:=(hl0.out k hk).1;omega)
  have f01:Fr [w.heap.size+5+1] X (XA.putObj (w.heap.size+5+1) (.loop (rec .busy none))):=(fA.sub (by simp)).trans f1
  have hO1:Fr [] w (XA.putObj (w.heap.size+5+1) (.loop (rec .busy none))):=((hgA.old.sub (T:=[w.heap.size+5+1]) (by simp)).trans f1).sub (fun k hk=>.inr (by simp at hk;omega))
  have ca:=at_cells hb1 0 rfl
  have hsz:Hid (C<(XA.putObj (w.heap.size+5+1) (.loop (rec .busy none))).heap.size):=u1.lt
  generalize XA.putObj (w.heap.size+5+1) (.loop (rec .busy none))=X1 at *
  clear hbl f1 uA fA hb ho hgA hg
  have e0:=u1.c0
  have e1:=u1.c1
  have e2:=u1.c2
  have e3:=u1.c3
  have e4:=u1.c4
  have hnew:=tok_new X1 (.int .i64 x0) (.string x1) (.int .i64 x2) (.int .i64 x3) (.int .i64 x4)
  have HCC:Hid (X.heap.size=C):=hCC
  clear hCC
  gi_wp2_with (gi_at_builtin;refine wpListIn_append_own_at _ rfl _ _ 74 rfl (w.heap.size+7) 82 i5 (.agg #[.int .i64 0,.string ⟨#[]⟩,.int .i64 0,.int .i64 0,.int .i64 0]) 5 48 under42 hi hz hz1 hby rfl (by decide) sv0 d.length (flatT d) rfl (ho1.alloc _) ⟨X1.heap.size,0,none⟩ 1 1 [.int .i64 x0,.string x1,.int .i64 x2,.int .i64 x3,.int .i64 x4] rfl rfl hnew (by simp[Value.oneCell']) (by have:=HDL.out;have:maxLen=9223372036854775807:=rfl;omega) (by have:=HDL.out;omega) (by have:=hXs.out;have:=hsz.out;simp;omega) ?_)
  intro v1 w3 hown1 hgrow hnil hloc
  have f2:Fr sv0.ownBlock.toList X1 w3:=((Fr.refl _ _).alloc _).trans ((Fr.ofGrown hgrow).sub (fun k hk=>.inl hk))
  have keep:∀ {k:Nat} {o:Obj},k<w.heap.size+7→X1.heap[k]? = some o→w3.heap[k]? = some o:=fun hk h1=>(f2.block _ (Array.getElem?_eq_some_iff.1 h1).1 (fun hm=>by have:=(hl0.out _ (by simpa using hm)).1;omega)).trans h1
  have q0' := keep (by omega) q0
  have q1' := keep (by omega) q1
  have q2' := keep (by omega) q2
  have hb2:=keep (by omega) hb1
  have hd2:=keep (by omega) hd1
  have hz2:=keep (by omega) hz1'
  have cb1:=at_cells hb2 0 rfl
  have fb1:w3.frozen? ⟨w.heap.size+1+1+1,0,none⟩=false:=by simp[World.frozen?,hb2]
  obtain⟨av,cv,hv,_⟩:=own_slice hown1
  subst hv
  have hlo1:Hid (∀ k,(Value.slice av (d.length+1) cv).ownBlock=some k→w.heap.size+7≤k):=fun k hk=>(hown1.lt k hk).1
  clear ca hgrow e0 e1 e2 e3 e4 hnew keep u1
  gi_wp2
  have f3:Fr [w.heap.size+1+1+1] w3 (w3.setCell ⟨w.heap.size+1+1+1,0,none⟩ (.slice av (d.length+1) cv)):=Fr.setCell (Fr.refl _ _) (.inl (by simp)) _
  have hb3:(w3.setCell ⟨w.heap.size+1+1+1,0,none⟩ (.slice av (d.length+1) cv)).heap[w.heap.size+1+1+1]? = some (.cells #[.slice av (d.length+1) cv] 74 (0,0)):=by simp[World.setCell,Array.getElem?_modify,hb2]
  have keep3:∀ {k:Nat} {o:Obj},k≠w.heap.size+1+1+1→w3.heap[k]? = some o→(w3.setCell ⟨w.heap.size+1+1+1,0,none⟩ (.slice av (d.length+1) cv)).heap[k]? = some o:=fun hk h1=>(f3.block _ (Array.getElem?_eq_some_iff.1 h1).1 (by simpa using hk)).trans h1
  have q0'' := keep3 (by omega) q0'
  have q1'' := keep3 (by omega) q1'
  have q2'' := keep3 (by omega) q2'
  have hd3:=keep3 (by omega) hd2
  have hz3:=keep3 (by omega) hz2
  have hown3:=own_fr hown1 f3 (fun k hk=>by simp;have:=hlo1.out k hk;omega)
  have hO3:Fr [] w (w3.setCell ⟨w.heap.size+1+1+1,0,none⟩ (.slice av (d.length+1) cv)):=((hO1.sub (T:=(w.heap.size+1+1+1)::sv0.ownBlock.toList) (by simp)).trans ((f2.sub (fun k hk=>.inl (by simp at hk;simp[hk]))).trans (f3.sub (fun k hk=>.inl (by simp at hk;simp[hk]))))).sub (fun k hk=>.inr (by
   simp only[List.mem_cons,Option.mem_toList] at hk
   rcases hk with rfl | hk
   ·omega
   ·have:=(hl0.out k hk).1;omega))
  have hM3:Fr ((w.heap.size+5+1)::(w.heap.size+1+1+1)::sv0.ownBlock.toList) X (w3.setCell ⟨w.heap.size+1+1+1,0,none⟩ (.slice av (d.length+1) cv)) :=
   (f01.sub (fun k hk=>.inl (by simp at hk;simp[hk]))).trans ((f2.sub (fun k hk=>.inl (by simp at hk;simp[hk]))).trans (f3.sub (fun k hk=>.inl (by simp at hk;simp[hk]))))
  clear keep3
  generalize w3.setCell ⟨w.heap.size+1+1+1,0,none⟩ (.slice av (d.length+1) cv)=w4 at *
  have hl4:=(Array.getElem?_eq_some_iff.1 hz3).1
  refine⟨hz3,rfl,⟨(w.heap.size+5+1)::(w.heap.size+1+1+1)::sv0.ownBlock.toList,?_,?_⟩,?_⟩
  ·exact hM3.trans ((Fr.putObj _).sub (fun k hk=>.inl (by simp at hk;simp[hk])))
  ·intro j hj
   simp only[List.mem_cons,Option.mem_toList] at hj
   have h0:=HX0.out
   have hC:=HCC.out
   rcases hj with rfl | rfl | hj
   ·exact⟨by omega,by omega,by omega⟩
   ·exact⟨by omega,by omega,by omega⟩
   ·have:=hl0.out j hj
    exact⟨by omega,by omega,by omega⟩
  ·have f4:=Fr.putObj (W:=w4) (l:=w.heap.size+5+1) (.loop (rec .ready none))
   have k4:∀ {k:Nat} {o:Obj},k≠w.heap.size+5+1→w4.heap[k]? = some o→(w4.putObj (w.heap.size+5+1) (.loop (rec .ready none))).heap[k]? = some o:=fun hk h1=>(World.putObj_heap_other hk).trans h1
   have hown4:=own_fr hown3 f4 (fun k hk=>by simp;have:=hlo1.out k hk;omega)
   refine⟨((hO3.sub (T:=[w.heap.size+5+1]) (by simp)).trans f4).sub (fun k hk=>.inr (by simp at hk;omega)),k4 (by omega) q0'',k4 (by omega) q1'',k4 (by omega) q2'',⟨_,k4 (by omega) hb3,?_⟩,World.putObj_heap_same hl4,k4 (by omega) hd3,by have:=HDL.out;simp;omega⟩
   rw[hta.out]
   simpa using hown4
 ·intro d p er X0 X hg0 hF hT hne
  have hg:=hg0.fr hF
  have hne' : ((er:Int) != 0)=true:=by simp;omega
  have HD:Hid (w1.heap.size=w.heap.size+5):=hD
  clear hD HS1 hne
  generalize hP:(p:Int)=p' at *
  generalize hErr:(er:Int)=er' at *
  refine hYr _ X _ rfl hg.rd ?_
  clear hYr
  gi_wp2
  have hgA:=hg.fr (Fr.alloc (Fr.refl _ X) (.cells #[.int .i64 0,.string ⟨#[]⟩,.int .i64 p',.int .i64 0,.int .i64 0] 82))
  have uA:=TB.new X (.int .i64 0) (.string ⟨#[]⟩) (.int .i64 p') (.int .i64 0) (.int .i64 0)
  have fA:Fr [] X (X.alloc (.cells #[.int .i64 0,.string ⟨#[]⟩,.int .i64 p',.int .i64 0,.int .i64 0] 82)):=(Fr.refl _ _).alloc _
  refine⟨hgA.rd,?_⟩
  have hXs:Hid (w.heap.size+6<X.heap.size):=(Array.getElem?_eq_some_iff.1 hg.rd).1
  generalize X.alloc (.cells #[.int .i64 0,.string ⟨#[]⟩,.int .i64 p',.int .i64 0,.int .i64 0] 82)=XA at *
  generalize hCC:X.heap.size=C at *
  have hbl:=(Array.getElem?_eq_some_iff.1 hgA.rd).1
  have f1:=Fr.putObj (W:=XA) (l:=w.heap.size+5+1) (.loop (rec .busy none))
  have hz1' := World.putObj_heap_same (w:=XA) (r:=w.heap.size+5+1) (o:=.loop (rec .busy none)) hbl
  have q0:(XA.putObj (w.heap.size+5+1) (.loop (rec .busy none))).heap[w.heap.size]? = _:=(World.putObj_heap_other (by omega)).trans hgA.r0
  have q1:(XA.putObj (w.heap.size+5+1) (.loop (rec .busy none))).heap[w.heap.size+1]? = _:=(World.putObj_heap_other (by omega)).trans hgA.r1
  have q2:(XA.putObj (w.heap.size+5+1) (.loop (rec .busy none))).heap[w.heap.size+1+1]? = _:=(World.putObj_heap_other (by omega)).trans hgA.r2
  have hd1:(XA.putObj (w.heap.size+5+1) (.loop (rec .busy none))).heap[w.heap.size+5]? = _:=(World.putObj_heap_other (by omega)).trans hgA.dfr
  have u1:TB (XA.putObj (w.heap.size+5+1) (.loop (rec .busy none))) C _ _ _ _ _:=uA.fr f1 (by simp;have:=hXs.out;omega)
  have hO1:Fr [] w (XA.putObj (w.heap.size+5+1) (.loop (rec .busy none))):=((hgA.old.sub (T:=[w.heap.size+5+1]) (by simp)).trans f1).sub (fun k hk=>.inr (by simp at hk;omega))
  have hCl:Hid (w.heap.size+6<C):=hXs
  generalize XA.putObj (w.heap.size+5+1) (.loop (rec .busy none))=X1 at *
  clear hbl f1 uA fA hgA hg hCC
  have e2:=u1.c2
  have c0:=at_cells q0 0 rfl
  have c1:=at_cells q1 0 rfl
  have c2:=at_cells q2 0 rfl
  have z0:X1.frozen? ⟨w.heap.size,0,none⟩=false:=by simp[World.frozen?,q0]
  have z1:X1.frozen? ⟨w.heap.size+1,0,none⟩=false:=by simp[World.frozen?,q1]
  have z2:X1.frozen? ⟨w.heap.size+1+1,0,none⟩=false:=by simp[World.frozen?,q2]
  have n0:C≠w.heap.size:=by have:=hCl.out;omega
  have n1:C≠w.heap.size+1:=by have:=hCl.out;omega
  have n2:C≠w.heap.size+1+1:=by have:=hCl.out;omega
  have hfin:=set3 (p:=p') (er:=er') (r' := rec .done (some .ret)) rfl q0 q1 q2 hz1' hd1 (by omega) (by omega) (by omega) hO1
  gi_wp2
  gi_region
  all_goals
   gi_wp2
   obtain⟨a1,a2,a3,a4,a5,a6,a7⟩:=hfin _ rfl
   refine⟨a1,⟨false,rfl⟩,a2,a3,?_,?_,a6,a7⟩
   ·rw[hP];exact a4
   ·rw[hErr];exact a5
 ·rintro e W2 ⟨hv,hQ⟩
  rw[walkT_all] at hQ
  refine⟨hv,?_⟩
  have HD:Hid (w1.heap.size=w.heap.size+5):=hD
  obtain⟨ts,er,hsc⟩ : ∃ ts er,sc s 0=(ts,er):=⟨_,_,rfl⟩
  rw[hsc] at hQ
  have HSC:Hid (sc s 0=(ts,er)):=hsc
  clear hD HS1 hYr hsc
  cases er with
  | some x =>
    obtain⟨p,c⟩:=x
    obtain⟨hO,q0,q1,q2,hl,hd⟩:=hQ
    refine .inr ⟨hl,?_⟩
    have hlt:=(Array.getElem?_eq_some_iff.1 hl).1
    have f6:=Fr.putObj (W:=W2) (l:=w.heap.size+5+1) (.loop (rec .exhausted (some .ret)))
    have k6:∀ {k:Nat} {o:Obj},k≠w.heap.size+5+1→W2.heap[k]? = some o→(W2.putObj (w.heap.size+5+1) (.loop (rec .exhausted (some .ret)))).heap[k]? = some o:=fun hk h1=>(World.putObj_heap_other hk).trans h1
    have q0:=k6 (by omega) q0
    have q1:=k6 (by omega) q1
    have q2:=k6 (by omega) q2
    have hd:=k6 (by omega) hd
    have hO:=((hO.sub (T:=[w.heap.size+5+1]) (by simp)).trans f6).sub (T:=[]) (fun k hk=>.inr (by simp at hk;omega))
    clear k6 f6
    generalize W2.putObj (w.heap.size+5+1) (.loop (rec .exhausted (some .ret)))=W3 at *
    gi_wp2
    refine⟨by simp,.inl ⟨_,_,rfl,run_takeDeferred hd,?_⟩⟩
    have f7:=Fr.putObj (W:=W3) (l:=w.heap.size+5) (.deferred none)
    have k7:∀ {k:Nat} {o:Obj},k≠w.heap.size+5→W3.heap[k]? = some o→(W3.putObj (w.heap.size+5) (.deferred none)).heap[k]? = some o:=fun hk h1=>(World.putObj_heap_other hk).trans h1
    have c0:=at_cells (k7 (by omega) q0) 0 rfl
    have c1:=at_cells (k7 (by omega) q1) 0 rfl
    have c2:=at_cells (k7 (by omega) q2) 0 rfl
    have hO7:=((hO.sub (T:=[w.heap.size+5]) (by simp)).trans f7).sub (T:=[]) (fun k hk=>.inr (by simp at hk;omega))
    refine⟨.tuple #[.slice none 0 0,.int .i64 (p:Nat),.int .i64 (c:Nat)],?_,scOut_some HSC.out,hO7⟩
    clear k7 f7 hO7
    generalize W3.putObj (w.heap.size+5) (.deferred none)=W4 at *
    simp[results,Tryz.results40,go_sem,c0,c1,c2]
  | none =>
    have hG:SG w w.heap.size (w.heap.size+5+1) (w.heap.size+5) rec ts W2:=hQ
    refine .inl ⟨hG.rd,?_⟩
    obtain⟨sv,hb,ho⟩:=hG.box
    have hlt:=(Array.getElem?_eq_some_iff.1 hG.rd).1
    have f6:=Fr.putObj (W:=W2) (l:=w.heap.size+5+1) (.loop (rec .exhausted none))
    have k6:∀ {k:Nat} {o:Obj},k≠w.heap.size+5+1→W2.heap[k]? = some o→(W2.putObj (w.heap.size+5+1) (.loop (rec .exhausted none))).heap[k]? = some o:=fun hk h1=>(World.putObj_heap_other hk).trans h1
    have q0:=k6 (by omega) hG.r0
    have q1:=k6 (by omega) hG.r1
    have q2:=k6 (by omega) hG.r2
    have hb:=k6 (by omega) hb
    have hd:=k6 (by omega) hG.dfr
    have hlo:Hid (∀ k,sv.ownBlock=some k→w.heap.size+7≤k):=fun k hk=>(ho.lt k hk).1
    have ho:=own_fr ho f6 (fun k hk=>by simp;have:=hlo.out k hk;omega)
    have hO:=((hG.old.sub (T:=[w.heap.size+5+1]) (by simp)).trans f6).sub (T:=[]) (fun k hk=>.inr (by simp at hk;omega))
    have hln:Hid (ts.length≤200000):=hG.len
    have hsz:Hid (w.heap.size+6<(W2.putObj (w.heap.size+5+1) (.loop (rec .exhausted none))).heap.size):=Nat.lt_of_lt_of_le hlt f6.size
    clear k6 f6 hlt hG hQ
    generalize W2.putObj (w.heap.size+5+1) (.loop (rec .exhausted none))=W3 at *
    have ca:=at_cells hb 0 rfl
    have c0:=at_cells q0 0 rfl
    have c1:=at_cells q1 0 rfl
    have c2:=at_cells q2 0 rfl
    have hnew:=tok_new W3 (.int .i64 0) (.string ⟨#[]⟩) (.int .i64 s.size) (.int .i64 s.size) (.int .i64 0)
    gi_wp2_with (gi_at_builtin;refine wpListIn_append_own_at _ rfl _ _ 74 rfl (w.heap.size+7) 82 i5 (.agg #[.int .i64 0,.string ⟨#[]⟩,.int .i64 0,.int .i64 0,.int .i64 0]) 5 48 under42 hi hz hz1 hby rfl (by decide) sv ts.length (flatT ts) rfl (ho.alloc _) ⟨W3.heap.size,0,none⟩ 1 1 [.int .i64 0,.string ⟨#[]⟩,.int .i64 s.size,.int .i64 s.size,.int .i64 0] rfl rfl hnew (by simp[Value.oneCell']) (by have:=hln.out;have:maxLen=9223372036854775807:=rfl;omega) (by have:=hln.out;omega) (by have:=hsz.out;simp;omega) ?_)
    intro v1 w3 hown1 hgrow hnil hloc
    have f2:Fr sv.ownBlock.toList W3 w3:=((Fr.refl _ _).alloc _).trans ((Fr.ofGrown hgrow).sub (fun k hk=>.inl hk))
    have keep:∀ {k:Nat} {o:Obj},k<w.heap.size+7→W3.heap[k]? = some o→w3.heap[k]? = some o:=fun hk h1=>(f2.block _ (Array.getElem?_eq_some_iff.1 h1).1 (fun hm=>by have:=(hlo.out _ (by simpa using hm));omega)).trans h1
    have q0:=keep (by omega) q0
    have q1:=keep (by omega) q1
    have q2:=keep (by omega) q2
    have hd:=keep (by omega) hd
    have hO3:Fr [] w w3:=((hO.sub (T:=sv.ownBlock.toList) (by simp)).trans f2).sub (fun k hk=>.inr (by simp only[Option.mem_toList] at hk;have:=hlo.out k hk;omega))
    obtain⟨av,cv,hv,_⟩:=own_slice hown1
    subst hv
    have hlo1:Hid (∀ k,(Value.slice av (ts.length+1) cv).ownBlock=some k→w.heap.size+7≤k):=fun k hk=>(hown1.lt k hk).1
    clear ca hgrow hnew keep c0 c1 c2
    have c0:=at_cells q0 0 rfl
    have c1:=at_cells q1 0 rfl
    have c2:=at_cells q2 0 rfl
    have z0:w3.frozen? ⟨w.heap.size,0,none⟩=false:=by simp[World.frozen?,q0]
    have z1:w3.frozen? ⟨w.heap.size+1,0,none⟩=false:=by simp[World.frozen?,q1]
    have z2:w3.frozen? ⟨w.heap.size+1+1,0,none⟩=false:=by simp[World.frozen?,q2]
    gi_wp2
    have A0:(((w3.setCell ⟨w.heap.size,0,none⟩ (.slice av (ts.length+1) cv)).setCell ⟨w.heap.size+1,0,none⟩ (.int .i64 0)).setCell ⟨w.heap.size+1+1,0,none⟩ (.int .i64 0)).heap[w.heap.size]? = some (.cells #[.slice av (ts.length+1) cv] 74 (0,0)):=set_other (by omega) (set_other (by omega) (set_same q0))
    have A1:(((w3.setCell ⟨w.heap.size,0,none⟩ (.slice av (ts.length+1) cv)).setCell ⟨w.heap.size+1,0,none⟩ (.int .i64 0)).setCell ⟨w.heap.size+1+1,0,none⟩ (.int .i64 0)).heap[w.heap.size+1]? = some (.cells #[.int .i64 0] 3 (0,0)):=set_other (by omega) (set_same (set_other (by omega) q1))
    have A2:(((w3.setCell ⟨w.heap.size,0,none⟩ (.slice av (ts.length+1) cv)).setCell ⟨w.heap.size+1,0,none⟩ (.int .i64 0)).setCell ⟨w.heap.size+1+1,0,none⟩ (.int .i64 0)).heap[w.heap.size+1+1]? = some (.cells #[.int .i64 0] 29 (0,0)):=set_same (set_other (by omega) (set_other (by omega) q2))
    have f5:Fr [w.heap.size,w.heap.size+1,w.heap.size+1+1] w3 (((w3.setCell ⟨w.heap.size,0,none⟩ (.slice av (ts.length+1) cv)).setCell ⟨w.heap.size+1,0,none⟩ (.int .i64 0)).setCell ⟨w.heap.size+1+1,0,none⟩ (.int .i64 0)):=(((Fr.refl _ _).setCell (.inl (by simp)) _).setCell (.inl (by simp)) _).setCell (.inl (by simp)) _
    generalize ((w3.setCell ⟨w.heap.size,0,none⟩ (.slice av (ts.length+1) cv)).setCell ⟨w.heap.size+1,0,none⟩ (.int .i64 0)).setCell ⟨w.heap.size+1+1,0,none⟩ (.int .i64 0)=w5 at *
    have hd5:=(f5.block _ (Array.getElem?_eq_some_iff.1 hd).1 (by simp)).trans hd
    have ho5:=own_fr hown1 f5 (fun k hk=>by simp;have:=hlo1.out k hk;omega)
    have hO5:Fr [] w w5:=((hO3.sub (T:=[w.heap.size,w.heap.size+1,w.heap.size+1+1]) (by simp)).trans f5).sub (fun k hk=>.inr (by simp at hk;omega))
    refine⟨by simp,.inl ⟨_,_,rfl,run_takeDeferred hd5,?_⟩⟩
    have f7:=Fr.putObj (W:=w5) (l:=w.heap.size+5) (.deferred none)
    have k7:∀ {k:Nat} {o:Obj},k≠w.heap.size+5→w5.heap[k]? = some o→(w5.putObj (w.heap.size+5) (.deferred none)).heap[k]? = some o:=fun hk h1=>(World.putObj_heap_other hk).trans h1
    have c0:=at_cells (k7 (by omega) A0) 0 rfl
    have c1:=at_cells (k7 (by omega) A1) 0 rfl
    have c2:=at_cells (k7 (by omega) A2) 0 rfl
    have hO7:=((hO5.sub (T:=[w.heap.size+5]) (by simp)).trans f7).sub (T:=[]) (fun k hk=>.inr (by simp at hk;omega))
    have ho7:=own_fr ho5 f7 (fun k hk=>by simp;have:=hlo1.out k hk;omega)
    refine⟨.tuple #[.slice av (ts.length+1) cv,.int .i64 0,.int .i64 0],?_,scOut_none HSC.out ?_,hO7⟩
    ·clear k7 f7 hO7 ho7
     generalize w5.putObj (w.heap.size+5) (.deferred none)=W4 at *
     simp[results,Tryz.results40,go_sem,c0,c1,c2]
    ·rw[flatT_append,flatT_one]
     exact own_low ho7 (by omega)
end Go.Proofs.YtnmfcaahdeddnaaGreatDoor
namespace Go.Proofs.YtnmfcaahdeddnaaGreatDoor
open Go.RowKit
set_option maxRecDepth 100000
def atB (s:ByteArray) (i:Nat) : Nat:=if h:i<s.size then s[i].toNat else 0
theorem atB_in {s:ByteArray} {i:Nat} (h:i<s.size) : atB s i=s[i].toNat:=by unfold atB;rw[dif_pos h]
theorem atB_out {s:ByteArray} {i:Nat} (h:¬ i<s.size) : atB s i=0:=by unfold atB;rw[dif_neg h]
theorem atB_lt (s:ByteArray) (i:Nat) : atB s i<256:=by
 unfold atB
 split
 ·exact byte_lt _
 ·omega
set_option linter.unusedVariables false in
theorem at_any (s:ByteArray) (i:Nat) (w:World) (hs:s.size≤maxLen) :
 Calls Tryz.prog 94 #[.string s,.int .i64 i] w fun e w'=>e = .returned (.int .u8 (atB s i))∧w' = w:=by
 unfold maxLen at hs
 by_cases h:i<s.size
 ·rw[atB_in h]
  go_enter Tryz.func94,Tryz.ntmps94
  go_wp2
  go_ret
  exact⟨rfl,rfl⟩
 ·rw[atB_out h]
  have h' : ¬ (i:Int)<s.size:=by omega
  go_enter Tryz.func94,Tryz.ntmps94
  go_wp2
  go_ret
  exact⟨rfl,rfl⟩
theorem note_at {s:ByteArray} {k:Nat} (h:k<s.size) : note s k=(decide (s[k].toNat=47)&&decide (atB s (k+1)=47)):=by
 unfold note
 rw[drop_cons s k h,pref_note,Bool.eq_iff_iff]
 by_cases h1:k+1<s.size
 ·rw[drop_cons s (k+1) h1,atB_in h1]
  have k1:=u8eq s[k+1] 47 (by decide)
  simp only[List.head?_cons,Option.some.injEq,decide_eq_true_eq,Bool.and_eq_true]
  rw[← k1]
  rfl
 ·rw[drop_end s (k+1) (by omega),atB_out h1]
  simp
theorem nlE_step {s:ByteArray} {k:Nat} (h:k<s.size) (h10:¬ s[k].toNat=10) : nlE s k=nlE s (k+1):=by
 unfold nlE
 rw[drop_cons s k h]
 simp only[toNl]
 rw[if_neg h10]
 omega
theorem nlE_stop {s:ByteArray} {k:Nat} (h:k<s.size) (h10:s[k].toNat=10) : nlE s k=k:=by
 unfold nlE
 rw[drop_cons s k h]
 simp only[toNl]
 rw[if_pos h10]
 omega
theorem nlE_end {s:ByteArray} {k:Nat} (h:s.size≤k) : nlE s k=k:=by
 unfold nlE
 rw[drop_end s k h]
 simp[toNl]
set_option maxHeartbeats 1000000 in
theorem skipR_any (s:ByteArray) (k0:Nat) (w:World) (hs:s.size≤maxLen) (hk0:k0≤s.size) :
 Calls Tryz.prog 54 #[.string s,.int .i64 k0] w fun e w'=>e = .returned (.int .i64 (skE s k0))∧w' = w:=by
 have hat:=fun k w=>at_any s (k+1) w hs
 unfold maxLen at hs
 go_enter Tryz.func54,Tryz.ntmps54
 go_wp2
 go_loop [1] (fun i=>∃ k:Nat,k≤s.size∧i = .int .i64 k∧Hid (skE s k=skE s k0)) (fun i=>s.size-(intOf i).toNat)
 case atStart=>exact⟨k0,hk0,rfl,rfl⟩
 case round =>
  obtain⟨k,hk,rfl,he⟩:=hrel
  by_cases hlt:k<s.size
  ·have hb:=byte_lt s[k]
   by_cases hbl:isBl s[k].toNat=true
   ·have hr:=skE_bl s k hlt hbl
    have hcl:=of_decide_eq_true hbl
    clear hbl hat
    rcases hcl with hcl | hcl | hcl | hcl
    ·have e32:((s[k].toNat:Int) == 32)=true:=by simp;omega
     clear hcl
     go_wp2
     go_round
     case rel=>exact⟨k+1,hlt,by go_num,hr ▸ he⟩
     case measure=>simp[intOf];omega
    ·have e32:((s[k].toNat:Int) == 32)=false:=beq_int_false (by omega)
     have e9:((s[k].toNat:Int) == 9)=true:=by simp;omega
     clear hcl
     go_wp2
     go_round
     case rel=>exact⟨k+1,hlt,by go_num,hr ▸ he⟩
     case measure=>simp[intOf];omega
    ·have e32:((s[k].toNat:Int) == 32)=false:=beq_int_false (by omega)
     have e9:((s[k].toNat:Int) == 9)=false:=beq_int_false (by omega)
     have e10:((s[k].toNat:Int) == 10)=true:=by simp;omega
     clear hcl
     go_wp2
     go_round
     case rel=>exact⟨k+1,hlt,by go_num,hr ▸ he⟩
     case measure=>simp[intOf];omega
    ·have e32:((s[k].toNat:Int) == 32)=false:=beq_int_false (by omega)
     have e9:((s[k].toNat:Int) == 9)=false:=beq_int_false (by omega)
     have e10:((s[k].toNat:Int) == 10)=false:=beq_int_false (by omega)
     have e13:((s[k].toNat:Int) == 13)=true:=by simp;omega
     clear hcl
     go_wp2
     go_round
     case rel=>exact⟨k+1,hlt,by go_num,hr ▸ he⟩
     case measure=>simp[intOf];omega
   ·have hbl' : isBl s[k].toNat=false:=by simpa using hbl
    have hcl:=of_decide_eq_false hbl'
    have e32:((s[k].toNat:Int) == 32)=false:=beq_int_false (by omega)
    have e9:((s[k].toNat:Int) == 9)=false:=beq_int_false (by omega)
    have e10:((s[k].toNat:Int) == 10)=false:=beq_int_false (by omega)
    have e13:((s[k].toNat:Int) == 13)=false:=beq_int_false (by omega)
    have hnote:=skE_note s k hlt hbl'
    have hout:=skE_out s k hlt hbl'
    have hna:=note_at hlt
    have hA:=atB_lt s (k+1)
    have hat' := hat k
    clear hat hcl hbl hbl'
    have hat2:∀ w,Calls Tryz.prog 94 #[.string s,.int .i64 ((k:Int)+1)] w fun e w'=>e = .returned (.int .u8 (atB s (k+1)))∧w' = w:=fun w=>by simpa using hat' w
    clear hat'
    by_cases h47:s[k].toNat=47
    ·have f47:((s[k].toNat:Int) == 47)=true:=by simp;omega
     by_cases g47:atB s (k+1)=47
     ·have n1:note s k=true:=by rw[hna,h47,g47];rfl
      obtain⟨hr,hgt⟩:=hnote n1
      have hnl:=nlE_le s k hk
      have HR:Hid (skE s (nlE s k)=skE s k0):=by show _=_;rw[← he.out,hr]
      rw[g47] at hat2
      clear hna hout n1 hr g47 h47 hA hnote
      go_wp2_with (go_at_call 94;refine (hat2 _).mono ?_;rintro e w' ⟨rfl,rfl⟩)
      go_loop [1] (fun i=>∃ j:Nat,j≤s.size∧i = .int .i64 j∧k≤j∧Hid (nlE s j=nlE s k)) (fun i=>s.size-(intOf i).toNat)
      case atStart=>exact⟨k,hk,rfl,Nat.le_refl _,rfl⟩
      case round =>
       obtain⟨j,hj,rfl,hkj,hje⟩:=hrel
       by_cases hjl:j<s.size
       ·have hbj:=byte_lt s[j]
        by_cases h10:s[j].toNat=10
        ·have m10:((s[j].toNat:Int) != 10)=false:=by simp;omega
         have hst:=nlE_stop hjl h10
         rw[hje.out] at hst
         rw[hst] at HR hgt
         clear hst h10 hnl hje
         go_wp2
         go_round
         case rel=>exact⟨j,hj,rfl,HR⟩
         case measure=>simp[intOf];omega
        ·have m10:((s[j].toNat:Int) != 10)=true:=by simp;omega
         have hst:=nlE_step hjl h10
         rw[hje.out] at hst
         have HST:Hid _:=hst
         clear hst h10 hje
         go_wp2
         go_round
         case rel=>exact⟨j+1,hjl,by go_num,by omega,HST.out.symm⟩
         case measure=>simp[intOf];omega
       ·have hst:=nlE_end (s:=s) (k:=j) (by omega)
        rw[hje.out] at hst
        rw[hst] at HR hgt
        clear hst hnl hje
        go_wp2
        go_round
        case rel=>exact⟨j,hj,rfl,HR⟩
        case measure=>simp[intOf];omega
     ·have n1:note s k=false:=by rw[hna,h47,decide_eq_false g47];rfl
      have hr:=hout n1
      have g47' : ((atB s (k+1) : Int) == 47)=false:=beq_int_false (by omega)
      generalize atB s (k+1)=A at *
      clear hna hout n1 hnote h47 g47
      go_wp2_with (go_at_call 94;refine (hat2 _).mono ?_;rintro e w' ⟨rfl,rfl⟩)
      go_ret
      refine⟨?_,rfl⟩;rw[← he.out,hr];rfl
    ·have f47:((s[k].toNat:Int) == 47)=false:=beq_int_false (by omega)
     have n1:note s k=false:=by rw[hna,decide_eq_false h47];rfl
     have hr:=hout n1
     clear hna hout n1 hnote h47 hat2 hA
     go_wp2
     go_ret
     refine⟨?_,rfl⟩;rw[← he.out,hr];rfl
  ·have hr:=skE_end s k (by omega)
   go_wp2
   go_ret
   refine⟨?_,rfl⟩;rw[← he.out,hr];rfl
end Go.Proofs.YtnmfcaahdeddnaaGreatDoor
