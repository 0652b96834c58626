/-
  Parts of the proof; conditions: as each says.
-/
import Derived.Test.YtnmfcaahdeddnaaGreatDoorMgAKDO
import Derived.Test.YtnmfcaahdeddnaaGreatDoorMgNAHF
namespace Go.Proofs.YtnmfcaahdeddnaaGreatDoor.T5
open Go.RowKit Go.Maps
attribute [local go_sem] Oper.semAt_some store_func
set_option linter.unusedVariables false
set_option linter.unusedSimpArgs false
theorem walkB_all:∀ (d T:List (Nat×Nat)),walkB (fun _=>true) d T=(true,d++T)
 | d,[]=>by simp[walkB]
 | d,t::r=>by rw[walkB,if_pos rfl,walkB_all (d++[t]) r];simp
theorem walkB_all0 (T:List (Nat×Nat)) : walkB (fun _=>true) [] T=(true,T):=by simpa using walkB_all [] T
theorem leave_marks2 {fn:Func} {tmps:Array Value} {v:Value} {R:Ending→World→Prop} : ∀ (rs:List Nat) (X:World),rs.Nodup→(∀ r∈rs,X.heap[r]? = some (.deferred (some [])))→(∀ X',Fr rs X X'→(results fn tmps).run Tryz.prog X' = .ok v X'∧R (.returned v) X')→LeavesInM Fence.wide 0 Tryz.prog fn tmps R (rs.map mkD) .returning X
 | [],X,_,_,h=>⟨_,(h X (Fr.refl _ _)).1,(h X (Fr.refl _ _)).2⟩
 | r::rs,X,hn,hd,h=>by
   have h1:=hd r (by simp)
   rw[List.nodup_cons] at hn
   refine⟨by simp,.inl ⟨_,_,rfl,run_takeDeferred h1,?_⟩⟩
   refine leave_marks2 rs _ hn.2 (fun q hq=>?_) (fun X' hF=>h X' (((Fr.putObj (.deferred none)).sub (fun k hk=>.inl (by simp at hk;simp[hk]))).trans (hF.sub (fun k hk=>.inl (by simp[hk])))))
   have hqr:q≠r:=fun e=>hn.1 (by rw[← e];exact hq)
   exact (World.putObj_heap_other hqr).trans (hd q (by simp[hq]))
def foldD (L:List Nd) (d:List (Nat×Nat)) : Ds:=d.foldl (fun d t=>stepD L d t.1) ⟨[],[],0,[]⟩
theorem foldD_snoc (L:List Nd) (d:List (Nat×Nat)) (t:Nat×Nat) : foldD L (d++[t])=stepD L (foldD L d) t.1:=by simp[foldD]
theorem addVar_len (v:ByteArray) : ∀ l:List FnD,(addVar v l).length=l.length
 | []=>rfl
 | [f]=>rfl
 | f::g::r=>by simp[addVar,addVar_len v (g::r)]
theorem addVar_vars (v:ByteArray) (m:Nat) : ∀ l:List FnD,(∀ f∈l,f.vars.length≤m)→∀ f∈addVar v l,f.vars.length≤m+1
 | [],_,f,hf=>by simp[addVar] at hf
 | [g],h,f,hf=>by
   simp[addVar] at hf
   subst hf
   have:=h g (by simp)
   simp;omega
 | g::g2::r,h,f,hf=>by
   rw[addVar,List.mem_cons] at hf
   rcases hf with rfl | hf
   ·have:=h f (by simp);omega
   ·exact addVar_vars v m (g2::r) (fun x hx=>h x (by simp[hx])) f hf
structure DB (L:List Nd) (d:Ds) (n:Nat) : Prop where
 s:d.sorts.length≤n
 f:d.fns.length≤n
 m:d.merges.length≤n
 v:∀ f∈d.fns,f.vars.length≤50000+n
 mn:d.main≤n
theorem foldD_bound {L:List Nd} (hk:∀ n,(kN L n).length≤50000) (d:List (Nat×Nat)) : DB L (foldD L d) d.length:=by
 have key:∀ (r:List (Nat×Nat)),DB L (foldD L r.reverse) r.length:=by
  intro r
  induction r with
  | nil=>exact⟨by simp[foldD],by simp[foldD],by simp[foldD],by simp[foldD],by simp[foldD]⟩
  | cons t r ih =>
    rw[List.reverse_cons,foldD_snoc]
    obtain⟨h1,h2,h3,h4,h5⟩:=ih
    simp only[List.length_cons]
    generalize foldD L r.reverse=D at *
    unfold stepD
    split
    ·exact⟨by simp;omega,by simp;omega,by simp;omega,fun f hf=>by have:=h4 f hf;omega,by simp;omega⟩
    ·split
     ·refine⟨by simp;omega,by simp;omega,by simp;omega,fun f hf=>?_,?_⟩
      ·simp only[List.mem_append,List.mem_singleton] at hf
       rcases hf with hf | rfl
       ·have:=h4 f hf;omega
       ·have:=hk t.1;simp;omega
      ·simp only;split <;> omega
     ·split
      ·exact⟨by simp;omega,by simp only;rw[addVar_len];omega,by simp;omega,fun f hf=>by have:=addVar_vars _ _ _ h4 f hf;omega,by simp;omega⟩
      ·split
       ·exact⟨by simp;omega,by simp;omega,by simp;omega,fun f hf=>by have:=h4 f hf;omega,by simp;omega⟩
       ·exact⟨by omega,by omega,by omega,fun f hf=>by have:=h4 f hf;omega,by omega⟩
 have:=key d.reverse
 rw[List.reverse_reverse,List.length_reverse] at this
 exact this
theorem foldD_led {L:List Nd} : ∀ (d:List (Nat×Nat)),(∃ s∈d,kdN L s.1=3)→(foldD L d).fns≠[]:=by
 intro d
 have key:∀ (r:List (Nat×Nat)),(∃ s∈r,kdN L s.1=3)→(foldD L r.reverse).fns≠[]:=by
  intro r
  induction r with
  | nil=>rintro ⟨s,hs,_⟩;simp at hs
  | cons t r ih =>
    rintro ⟨s,hs,h3⟩
    rw[List.reverse_cons,foldD_snoc]
    by_cases ht:kdN L t.1=3
    ·unfold stepD
     rw[if_neg (by omega),if_pos ht]
     simp
    ·rw[List.mem_cons] at hs
     rcases hs with rfl | hs
     ·exact absurd h3 ht
     ·have h:=ih ⟨s,hs,h3⟩
      unfold stepD
      split
      ·exact h
      ·split
       ·intro e
        have:=congrArg List.length e
        simp only[addVar_len,List.length_nil] at this
        exact h (List.length_eq_zero_iff.1 this)
       ·split
        ·exact h
        ·exact h
 rintro ⟨s,hs,h3⟩
 have:=key d.reverse ⟨s,by simpa using hs,h3⟩
 rwa [List.reverse_reverse] at this
theorem info3c:(Tryz.prog.info? 3).map (fun i=>(i.zero,i.size,i.bytes))=some (some (.int .i64 0),1,8):=by kernel_rfl
theorem under26c:Tryz.prog.underlying 26=some (.slice 3):=by kernel_rfl
theorem set4_0 {W:World} {k:Nat} {a b c d v:Value} {t:TypeId} (h:W.heap[k]? = some (.cells #[a,b,c,d] t (0,0))) : (W.setCell ⟨k,0,none⟩ v).heap[k]? = some (.cells #[v,b,c,d] t (0,0)):=by simp[World.setCell,Array.getElem?_modify,h]
theorem set4_1 {W:World} {k:Nat} {a b c d v:Value} {t:TypeId} (h:W.heap[k]? = some (.cells #[a,b,c,d] t (0,0))) : (W.setCell ⟨k,1,none⟩ v).heap[k]? = some (.cells #[a,v,c,d] t (0,0)):=by simp[World.setCell,Array.getElem?_modify,h]
theorem set4_2 {W:World} {k:Nat} {a b c d v:Value} {t:TypeId} (h:W.heap[k]? = some (.cells #[a,b,c,d] t (0,0))) : (W.setCell ⟨k,2,none⟩ v).heap[k]? = some (.cells #[a,b,v,d] t (0,0)):=by simp[World.setCell,Array.getElem?_modify,h]
theorem set4_3 {W:World} {k:Nat} {a b c d v:Value} {t:TypeId} (h:W.heap[k]? = some (.cells #[a,b,c,d] t (0,0))) : (W.setCell ⟨k,3,none⟩ v).heap[k]? = some (.cells #[a,b,c,v] t (0,0)):=by simp[World.setCell,Array.getElem?_modify,h]
theorem set_off {W:World} {k j i:Nat} {v:Value} {o:Obj} (hk:k≠j) (h:W.heap[k]? = some o) : (W.setCell ⟨j,i,none⟩ v).heap[k]? = some o:=(Below.heap_setCell _ _ _ _ (by simpa using hk)).trans h
theorem _root_.Go.Proofs.YtnmfcaahdeddnaaGreatDoor.Fr.over' {S T:List Nat} {a b c:World} (h:Fr S a b) (k:Fr T b c) (hT:∀ i,i∈T→a.heap.size≤i) : Fr S a c :=
 ((h.sub (T:=S++T) (fun k hk=>.inl (List.mem_append_left _ hk))).trans (k.sub (fun k hk=>.inl (List.mem_append_right _ hk)))).sub (fun i hi=>by
   rcases List.mem_append.1 hi with h1 | h1
   ·exact .inl h1
   ·exact .inr (hT i h1))
set_option maxRecDepth 100000 in
set_option maxHeartbeats 8000000 in
theorem described_any (L:List Nd) (w:World) (a:Option Addr) (len cap:Nat) (hlen:L.length=len) (hL:NAt w.heap.size w a L) (TT:Tabs w) {pc:Nat} (hc:checkL L=(pc,0)) (S:Shp L) (hkf:∀ n,(kN L n).length≤50000) :
 Calls Tryz.prog 38 #[.slice a len cap] w fun e w'=>∃ sv fv mv SS FF,e = .returned (.agg #[sv,fv,.int .i64 ((descL L).main:Nat),mv])∧DM w' w.heap.size (descL L) sv fv mv SS FF∧Fr [] w w' := by
 obtain⟨hA,hpos,h5,hone,hwl⟩:=tree_once hc
 obtain⟨T0,hn0,_,_,hkd,_⟩:=check_zero hc
 have hlm:len≤50000:=by omega
 have HLN:Hid (L.length=len):=hlen
 have hT:treeW L=wk L (L.length-1) 0:=by unfold treeW;rw[hc];rfl
 have HTL:Hid ((treeW L).length≤50000):=by unfold Hid;rw[hT,hwl];exact h5
 have HLT:Hid (∀ t∈treeW L,(t:Nat×Nat).1<len):=by
  unfold Hid
  intro t ht
  rw[hT] at ht
  have:=wk_sum hA _ 0 t ht
  omega
 have HLED:Hid (Led (kdN L) (treeW L)):=by
  unfold Hid
  rw[hT]
  exact tree_led hA S (by rw[kd_kdN,Int.toNat_natCast] at hkd;exact hkd)
 have HDE:Hid (descL L=foldD L (treeW L)):=rfl
 have HBD:Hid (∀ d,DB L (foldD L d) d.length):=fun d=>foldD_bound hkf d
 have f0:Fr [] w (((w.alloc (.cells #[.slice a len cap] 23)).alloc (.cells #[.slice none 0 0,.slice none 0 0,.int .i64 0,.slice none 0 0] 28)).alloc (.cells #[.slice none 0 0,.slice none 0 0,.int .i64 0,.slice none 0 0] 28)):=(((Fr.refl _ _).alloc _).alloc _).alloc _
 have a0:(((w.alloc (.cells #[.slice a len cap] 23)).alloc (.cells #[.slice none 0 0,.slice none 0 0,.int .i64 0,.slice none 0 0] 28)).alloc (.cells #[.slice none 0 0,.slice none 0 0,.int .i64 0,.slice none 0 0] 28)).heap[w.heap.size]? = some (.cells #[.slice a len cap] 23 (0,0)):=keep_alloc (keep_alloc (heap_alloc_new w _))
 have r0:(((w.alloc (.cells #[.slice a len cap] 23)).alloc (.cells #[.slice none 0 0,.slice none 0 0,.int .i64 0,.slice none 0 0] 28)).alloc (.cells #[.slice none 0 0,.slice none 0 0,.int .i64 0,.slice none 0 0] 28)).heap[w.heap.size+1]? = some (.cells #[.slice none 0 0,.slice none 0 0,.int .i64 0,.slice none 0 0] 28 (0,0)):=keep_alloc (new_alloc _ (by simp))
 have d0:(((w.alloc (.cells #[.slice a len cap] 23)).alloc (.cells #[.slice none 0 0,.slice none 0 0,.int .i64 0,.slice none 0 0] 28)).alloc (.cells #[.slice none 0 0,.slice none 0 0,.int .i64 0,.slice none 0 0] 28)).heap[w.heap.size+1+1]? = some (.cells #[.slice none 0 0,.slice none 0 0,.int .i64 0,.slice none 0 0] 28 (0,0)):=new_alloc _ (by simp)
 clear hlen hc hone hwl hpos h5 hn0 hkd hT
 refine callsIn_wide.1 (callsIn_of_wp_marks (n:=0) Tryz.func38 rfl trivial ?_ rfl)
 simp only[Tryz.ntmps38,List.size_toArray,List.length_cons,List.length_nil,Nat.reduceAdd,Nat.reduceSub,Array.replicate_succ,Array.replicate_zero,List.push_toArray,List.append_toArray,List.nil_append,List.cons_append]
 gi_wp2
 generalize ((w.alloc (.cells #[.slice a len cap] 23)).alloc (.cells #[.slice none 0 0,.slice none 0 0,.int .i64 0,.slice none 0 0] 28)).alloc (.cells #[.slice none 0 0,.slice none 0 0,.int .i64 0,.slice none 0 0] 28)=w0 at *
 have C:=walk_any w.heap.size L w0 a len cap HLN.out (hL.fr f0 (by simp)) (by omega) f0.size (TT.fr f0 (by simp))
 unfold walkOut at C
 refine⟨trivial,rfl,(callsIn_wide.2 C).mono ?_⟩
 rintro e w5 ⟨bo,sv,rfl,hbo,ob,oo,f5⟩
 have F5:=f0.trans f5
 have kp5:∀ {k:Nat} {o:Obj},w0.heap[k]? = some o→w5.heap[k]? = some o:=fun h=>(f5.block _ (Array.getElem?_eq_some_iff.1 h).1 (by simp)).trans h
 have a5:=kp5 a0
 have r5:=kp5 r0
 have d5:=kp5 d0
 have HB5:Hid (w.heap.size+1+1<w5.heap.size∧bo<w5.heap.size∧w.heap.size+1+1<bo):=⟨(Array.getElem?_eq_some_iff.1 d5).1,(Array.getElem?_eq_some_iff.1 ob).1,by have:=(Array.getElem?_eq_some_iff.1 d0).1;omega⟩
 have HO5:Hid (∀ k,sv.ownBlock=some k→w.heap.size+1+1<k∧k<w5.heap.size):=fun k hk=>by
  have h1:=(oo.lt k hk).1
  have h2:=(oo.lt k hk).2
  have:=(Array.getElem?_eq_some_iff.1 d0).1
  exact⟨by omega,h2⟩
 clear C f5 f0 kp5 a0 r0 d0 hbo
 generalize treeW L=T at *
 gi_wp2
 refine range_brk (gf:=99) (lb:=#[.pointer (some ⟨bo,0,none⟩)]) rfl (enters_of Tryz.func99 (by kernel_rfl) rfl) ?_
 intro rec hYr
 show CallsIn Fence.wide 0 Tryz.prog 99 #[.func (.yield (w5.heap.size+1)) #[] #[],.pointer (some ⟨bo,0,none⟩)] _ _
 have f8:Fr [] w5 ((w5.alloc (.deferred (some []))).alloc (.loop (rec .ready none))):=((Fr.refl _ _).alloc _).alloc _
 have hL9:=blk2 w5 (.deferred (some [])) (.loop (rec .ready none))
 have hD9:((w5.alloc (.deferred (some []))).alloc (.loop (rec .ready none))).heap[w5.heap.size]? = some (.deferred (some [])):=(Below.heap_alloc _ _ _ (by simp)).trans (heap_alloc_new w5 _)
 generalize (w5.alloc (.deferred (some []))).alloc (.loop (rec .ready none))=w9 at *
 have kp:∀ {k:Nat} {o:Obj},w5.heap[k]? = some o→w9.heap[k]? = some o:=fun h=>(f8.block _ (Array.getElem?_eq_some_iff.1 h).1 (by simp)).trans h
 have ob9:=kp ob
 have oo9:=own_fr oo f8 (by simp)
 have a9:=kp a5
 have r9:=kp r5
 have d9:=kp d5
 have F9:=F5.trans f8
 have HL9:=hidC (hL.fr F9 (by simp))
 have HW9:Hid (w.heap.size≤w9.heap.size∧w5.heap.size+1<w9.heap.size):=⟨F9.size,(Array.getElem?_eq_some_iff.1 hL9).1⟩
 clear kp f8 F5 ob oo a5 r5 d5 hL TT
 generalize hw5:w5.heap.size=Z at *
 generalize hD:w.heap.size+1+1=D at *
 have DM0:DM w9 w9.heap.size (foldD L []) (.slice none 0 0) (.slice none 0 0) (.slice none 0 0) [] []:=⟨World.ownsRow_nil _ _ _ _,World.ownsRow_nil _ _ _ _,World.ownsRow_nil _ _ _ _,by simp,by simp,rfl,rfl,fun I f e=>by simp at e⟩
 refine (told1 (fun _=>true) (fun d X=>Fr [D,Z+1] w9 X∧X.heap[Z+1]? = some (.loop (rec .ready none))∧∃ sv fv mv SS FF,X.heap[D]? = some (.cells #[sv,fv,.int .i64 ((foldD L d).main:Nat),mv] 28 (0,0))∧DM X w9.heap.size (foldD L d) sv fv mv SS FF)
  (fun b d X=>b=true∧Fr [D,Z+1] w9 X∧X.heap[Z+1]? = some (.loop (rec .ready none))∧∃ sv fv mv SS FF,X.heap[D]? = some (.cells #[sv,fv,.int .i64 ((foldD L d).main:Nat),mv] 28 (0,0))∧DM X w9.heap.size (foldD L d) sv fv mv SS FF) (Z+1) bo w0.heap.size sv T HTL.out ?_ ?_ ?_ ?_ w9 ⟨Fr.refl _ _,hL9,_,_,_,_,_,d9,DM0⟩).mono ?_
 ·rintro d X ⟨f,h1,_⟩
  have:=HB5.out
  refine⟨(f.block _ (Array.getElem?_eq_some_iff.1 ob9).1 (by simp;omega)).trans ob9,own_fr oo9 f (fun k hk=>by have:=HO5.out k hk;simp;omega)⟩
 ·rintro d X o ⟨f,h1,sv,fv,mv,SS,FF,h2,h3⟩
  exact⟨f.alloc _,keep_alloc h1,sv,fv,mv,SS,FF,keep_alloc h2,h3.fr ((Fr.refl [] X).alloc o) (by simp)⟩
 ·rintro d X h
  exact⟨rfl,h⟩
 ·rintro d ⟨tn,td⟩ X ⟨f,h2,sv,fv,mv,SS,FF,hXD,hDM⟩ ⟨r,hr⟩
  have htn:tn<len:=HLT.out (tn,td) (by rw[hr];simp)
  have HBX:Hid (DB L (foldD L d) 49999):=by
   have h1:=HBD.out d
   have h2:=HTL.out
   rw[hr] at h2
   simp at h2
   exact⟨by have:=h1.s;omega,by have:=h1.f;omega,by have:=h1.m;omega,fun f hf=>by have:=h1.v f hf;omega,by have:=h1.mn;omega⟩
  have HLD:Hid (kdN L tn=5→(foldD L d).fns≠[]):=fun h=>foldD_led d (HLED.out d (tn,td) r hr h)
  have HSN:Hid (foldD L (d++[(tn,td)])=stepD L (foldD L d) tn):=foldD_snoc L d (tn,td)
  have hI:(tn:Int)<len:=by omega
  have hlI:(len:Int)≤50000:=by omega
  have hxl:tn<L.length:=by rw[HLN.out];exact htn
  have hx:L[tn]? = some L[tn]:=List.getElem?_eq_getElem hxl
  generalize L[tn]=x at hx
  refine hYr _ X _ rfl h2 ?_
  clear hYr hr
  have hB:=HB5.out
  have hW9:=HW9.out
  have f1:=Fr.putObj (W:=X) (l:=Z+1) (.loop (rec .busy none))
  have F1:Fr [D,Z+1] w9 (X.putObj (Z+1) (.loop (rec .busy none))):=f.trans (f1.sub (fun k hk=>.inl (by simp at hk;simp[hk])))
  have y1:=hDM.fr f1 (fun k hk=>by simp at hk;subst hk;exact hDM.off h2 (by intro c t z e;cases e))
  have yD:(X.putObj (Z+1) (.loop (rec .busy none))).heap[D]? = _:=(World.putObj_heap_other (by omega)).trans hXD
  have y3:=World.putObj_heap_same (w:=X) (r:=Z+1) (o:=.loop (rec .busy none)) (Array.getElem?_eq_some_iff.1 h2).1
  have y4:=(F1.block _ (Array.getElem?_eq_some_iff.1 a9).1 (by simp;omega)).trans a9
  have l1:=at_cells y4 0 (u:=.slice a len cap) rfl
  have HN9:=hidC (HL9.out.fr F1 (by simp;omega))
  have HSZ:Hid (w9.heap.size≤(X.putObj (Z+1) (.loop (rec .busy none))).heap.size):=F1.size
  have HH2:=hidC h2
  clear hDM hXD f f1
  gi_wp2
  refine⟨HH2.out,?_⟩
  generalize X.putObj (Z+1) (.loop (rec .busy none))=X1 at *
  obtain⟨b,o,rfl,hb,hc⟩:=HN9.out tn x hx
  obtain⟨c0,c1,c2,c3,ck,ct,ckl,ckc,ckn⟩:=hc
  have nb:b≠X1.heap.size:=by have:=World.block_lt_of_cell? X1 _ c0;simp only at this;omega
  have eK:kdN L tn=x.kind:=kdN_of hx
  have eN:kN L tn=x.ks.map Int.toNat:=kN_some hx
  have eT:tbN L tn=x.text:=by unfold tbN;rw[hx]
  have eT2:txN L tn=x.text.data.toList:=by unfold txN;rw[hx]
  have hkm:x.ks.length≤50000:=by have:=hkf tn;rw[eN,List.length_map] at this;exact this
  have HKS:Hid (∀ k∈x.ks,0≤k∧k<len):=fun k hk=>by obtain⟨q0,q1⟩:=hA tn x hx k hk;exact⟨q0,by omega⟩
  have HX:=hidC hx
  unfold stepD at HSN
  rw[eK,eN,eT,eT2] at HSN
  rw[eK] at HLD
  have HFN:Hid (x.kind=3→0<x.ks.length):=fun h=>by
   have:=(S.fnPos (n:=tn) (by rw[eK];exact h)).2
   rw[eN,List.length_map] at this
   exact this
  have F2:Fr [] X1 (X1.alloc (.cells #[.int .i64 x.kind,.string x.text,.slice x.a x.ks.length x.c,.int .i64 x.pl] 55)):=(Fr.refl _ _).alloc _
  have bx:=heap_alloc_new X1 (.cells #[.int .i64 x.kind,.string x.text,.slice x.a x.ks.length x.c,.int .i64 x.pl] 55)
  have HXS:Hid ((X1.alloc (.cells #[.int .i64 x.kind,.string x.text,.slice x.a x.ks.length x.c,.int .i64 x.pl] 55)).heap.size=X1.heap.size+1):=by unfold Hid;simp
  obtain⟨xk,xt,xa,xc,xks,xpl⟩:=x
  simp only at *
  have FIN:Hid (∀ W sv fv mv SS FF,Fr [D,Z+1] w9 W→W.heap[Z+1]? = some (.loop (rec .busy none))→W.heap[D]? = some (.cells #[sv,fv,.int .i64 ((foldD L (d++[(tn,td)])).main:Nat),mv] 28 (0,0))→DM W w9.heap.size (foldD L (d++[(tn,td)])) sv fv mv SS FF →
   (Fr [D,Z+1] w9 (W.putObj (Z+1) (.loop (rec .ready none)))∧(W.putObj (Z+1) (.loop (rec .ready none))).heap[Z+1]? = some (.loop (rec .ready none))∧∃ sv fv mv SS FF,(W.putObj (Z+1) (.loop (rec .ready none))).heap[D]? = some (.cells #[sv,fv,.int .i64 ((foldD L (d++[(tn,td)])).main:Nat),mv] 28 (0,0))∧DM (W.putObj (Z+1) (.loop (rec .ready none))) w9.heap.size (foldD L (d++[(tn,td)])) sv fv mv SS FF)):=by
   intro W sv fv mv SS FF q1 q2 q3 q4
   have hB:=HB5.out
   exact⟨q1.trans ((Fr.putObj _).sub (fun k hk=>.inl (by simp at hk;simp[hk]))),World.putObj_heap_same (Array.getElem?_eq_some_iff.1 q2).1,sv,fv,mv,SS,FF,(World.putObj_heap_other (by omega)).trans q3,q4.fr (Fr.putObj _) (fun k hk=>by simp at hk;subst hk;exact q4.off q2 (by intro c t z e;cases e))⟩
  have G1:=F1.trans (F2.sub (by simp))
  have g3:=keep_alloc (u:=.cells #[.int .i64 xk,.string xt,.slice xa xks.length xc,.int .i64 xpl] 55) y3
  have gD:=keep_alloc (u:=.cells #[.int .i64 xk,.string xt,.slice xa xks.length xc,.int .i64 xpl] 55) yD
  have g4:=keep_alloc (u:=.cells #[.int .i64 xk,.string xt,.slice xa xks.length xc,.int .i64 xpl] 55) y4
  have gM:=y1.fr F2 (by simp)
  have gN:=HN9.out.fr F2 (by simp)
  have gk:=ck.fr F2 (by simp)
  have HG1:=hidC G1
  have Hg3:=hidC g3
  have HgD:=hidC gD
  have Hg4:=hidC g4
  have HgM:=hidC gM
  have HgN:=hidC gN
  have Hgk:=hidC gk
  have Hbx:=hidC bx
  have HBS:Hid (w9.heap.size≤(X1.alloc (.cells #[.int .i64 xk,.string xt,.slice xa xks.length xc,.int .i64 xpl] 55)).heap.size):=by have:=HSZ.out;unfold Hid;simp;omega
  have HOK:Hid (xks.length≤xc∧(xa=none→xc=0)):=⟨ckc,ckn⟩
  clear y1 yD y3 y4 G1 g3 gD g4 gM gN gk F1 F2 bx ck ct ckl ckc ckn HN9 eK eN eT eT2 hx HX HXS
  by_cases k2:xk=2
  ·subst k2
   rw[if_pos rfl] at HSN
   gi_wp2
   generalize X1.alloc (.cells #[.int .i64 2,.string xt,.slice xa xks.length xc,.int .i64 xpl] 55)=X2 at *
   obtain⟨sa,sc,rfl,_⟩:=own_slice HgM.out.so
   refine reg7 HgD.out HgM.out.so (by have h1:=HBX.out.s;rw[← HgM.out.es,List.length_map] at h1;omega) HBS.out Hbx.out Hg4.out HLN.out HgN.out hlm Hgk.out rfl hkm HKS.out ?_
   intro a' Y1 Y2 nv sv' q1 hn q2 ho2
   have hB:=HB5.out
   have hn' : Y1.ownsRow X2.heap.size 9 1 nv (xks.map (fun k=>tbN L k.toNat)).length (stC (xks.map (fun k=>tbN L k.toNat))):=by rw[List.length_map];exact hn
   have M2:=HgM.out.sort HBS.out q1 (nm:=xt) hn' q2 ho2
   have kk:∀ {k:Nat} {o:Obj},X2.heap[k]? = some o→(Value.slice sa SS.length sc).ownBlock≠some k→Y2.heap[k]? = some o:=fun h hne=>by
    have h1:=(q1.block _ (Array.getElem?_eq_some_iff.1 h).1 (by simp)).trans h
    exact (q2.block _ (Array.getElem?_eq_some_iff.1 h1).1 (by simpa using hne)).trans h1
   have D2:=kk HgD.out (HgM.out.off HgD.out (by intro c t z e;cases e;decide)).1
   have L2:=kk Hg3.out (HgM.out.off Hg3.out (by intro c t z e;cases e)).1
   have fS:Fr [D] Y2 (Y2.setCell ⟨D,0,none⟩ sv'):=(Fr.refl _ _).setCell (.inl (by simp)) _
   have M3:=M2.fr fS (fun k hk=>by simp at hk;subst hk;exact M2.off D2 (by intro c t z e;cases e;decide))
   have D3:=set4_0 (v:=sv') D2
   have L3:=set_off (i:=0) (v:=sv') (show Z+1≠D by omega) L2
   have FW:Fr [D,Z+1] w9 (Y2.setCell ⟨D,0,none⟩ sv'):=((HG1.out.trans (q1.sub (by simp))).over' q2 (fun k hk=>by simp only[Option.mem_toList] at hk;exact (HgM.out.so.lt k hk).1)).trans (fS.sub (fun k hk=>.inl (by simp at hk;simp[hk])))
   have HRES:=hidC (FIN.out _ _ _ _ _ _ FW L3 (by rw[HSN.out];exact D3) (by rw[HSN.out,List.map_map];exact M3))
   have HL3:=hidC L3
   clear FIN kk D2 L2 M2 M3 D3 L3 FW fS hn hn' ho2 q1 q2 hB
   gi_wp2
   exact⟨HL3.out,rfl,HRES.out⟩
  rw[if_neg k2] at HSN
  have j2:(xk == 2)=false:=by simpa using k2
  by_cases k3:xk=3
  ·subst k3
   rw[if_pos rfl] at HSN
   obtain⟨ad,rfl⟩ : ∃ ad,xa=some ad:=Option.ne_none_iff_exists'.1 (fun h0=>by have h1:=HOK.out.1;have h2:=HOK.out.2 h0;have:=HFN.out rfl;omega)
   have hkp:=HFN.out rfl
   have C69:Hid (∀ W,Calls Tryz.prog 69 #[.agg #[.int .i64 3,.string xt,.slice (some ad) xks.length xc,.int .i64 xpl]] W fun e w'=>e = .returned (.slice (some ad) (xks.length-1) xc)∧Fr [] W w'):=fun W=>params_is W 3 xt ad xks.length xc xpl hkp HOK.out.1 hkm
   obtain⟨fa,fc,rfl,_⟩:=own_slice HgM.out.fo
   rw[List.length_map,← List.map_take,List.map_map] at HSN
   have HTK:Hid ((xks.take (xks.length-1)).length=xks.length-1):=by unfold Hid;rw[List.length_take];omega
   have hl1:xks.length-1≤50000:=by omega
   have HKS1:Hid (∀ k∈xks.take (xks.length-1),0≤k∧k<len):=fun k hk=>HKS.out k (List.mem_of_mem_take hk)
   have Hgk1:Hid (KAt w.heap.size (X1.alloc (.cells #[.int .i64 3,.string xt,.slice (some ad) xks.length xc,.int .i64 xpl] 55)) (some ad) (xks.take (xks.length-1))):=fun j k hk=>Hgk.out j k (by rw[List.getElem?_take] at hk;split at hk;exact hk;cases hk)
   have HDF:Hid ((foldD L d).fns.length=FF.length):=by unfold Hid;rw[← HgM.out.ef,List.length_map]
   have HfI:Hid ((FF.length:Int)≤50000):=by have h1:=HBX.out.f;rw[HDF.out] at h1;unfold Hid;omega
   have hfI:=HfI.out
   have e0:=at_cells Hbx.out 0 rfl
   have e1:=at_cells Hbx.out 1 rfl
   have e2:=at_cells Hbx.out 2 rfl
   have e3:=at_cells Hbx.out 3 rfl
   have eq0:xt.toList=xt.data.toList:=Lib.toList_data xt
   by_cases hmain:xt.data.toList=mainB
   ·rw[if_pos hmain,HDF.out] at HSN
    have hs:(xt.toList == [109,97,105,110])=true:=by rw[eq0,hmain];rfl
    clear eq0
    have d1:=at_cells HgD.out 1 rfl
    have d2:=at_cells HgD.out 2 rfl
    have z2:(X1.alloc (.cells #[.int .i64 3,.string xt,.slice (some ad) xks.length xc,.int .i64 xpl] 55)).frozen? ⟨D,2,none⟩=false:=by simp[World.frozen?,HgD.out]
    have nDX:X1.heap.size≠D:=by intro h;have h1:=HgD.out;rw[← h,Hbx.out] at h1;simp at h1
    have fM:Fr [D] (X1.alloc (.cells #[.int .i64 3,.string xt,.slice (some ad) xks.length xc,.int .i64 xpl] 55)) ((X1.alloc (.cells #[.int .i64 3,.string xt,.slice (some ad) xks.length xc,.int .i64 xpl] 55)).setCell ⟨D,2,none⟩ (.int .i64 FF.length)):=(Fr.refl _ _).setCell (.inl (by simp)) _
    have HnD:Hid (w.heap.size≤D∧Z+1≠D∧w.heap.size≠D):=by have:=HB5.out;unfold Hid;omega
    have HMD:=hidC (HgM.out.fr fM (fun k hk=>by simp at hk;subst hk;exact HgM.out.off HgD.out (by intro c t z e;cases e;decide)))
    have HDD:=hidC (set4_2 (v:=.int .i64 FF.length) HgD.out)
    have HbX:=hidC (set_off (i:=2) (v:=.int .i64 FF.length) nDX Hbx.out)
    have HlX:=hidC (set_off (i:=2) (v:=.int .i64 FF.length) HnD.out.2.1 Hg3.out)
    have H4X:=hidC (set_off (i:=2) (v:=.int .i64 FF.length) HnD.out.2.2 Hg4.out)
    have HNX:=hidC (HgN.out.fr fM (by have:=HnD.out.1;simp;omega))
    have HkX:=hidC (Hgk1.out.fr fM (by have:=HnD.out.1;simp;omega))
    have HBX2:Hid (w9.heap.size≤((X1.alloc (.cells #[.int .i64 3,.string xt,.slice (some ad) xks.length xc,.int .i64 xpl] 55)).setCell ⟨D,2,none⟩ (.int .i64 FF.length)).heap.size):=Nat.le_trans HBS.out fM.size
    have HGX:=hidC (HG1.out.trans (fM.sub (fun k hk=>.inl (by simp at hk;simp[hk]))))
    have hDS:foldD L (d++[(tn,td)]) = { foldD L d with main:=(foldD L (d++[(tn,td)])).main,fns:=(foldD L d).fns++[⟨xt,xks.length-1,(xks.take (xks.length-1)).map (fun k=>tbN L k.toNat),tn⟩] }:=by rw[HSN.out];rfl
    have HDS:=hidC hDS
    have HMN:Hid ((foldD L (d++[(tn,td)])).main=FF.length):=by unfold Hid;rw[HSN.out]
    clear fM hDS HSN
    gi_wp2
    refine⟨trivial,rfl,(CallsIn.inRound (Z+1) (callsIn_wide.2 (C69.out _))).mono ?_⟩
    rintro e X4 ⟨rfl,q0⟩
    gi_wp2
    have HD3:=(q0.block _ (Array.getElem?_eq_some_iff.1 HDD.out).1 (by simp)).trans HDD.out
    have Hbx3:=(q0.block _ (Array.getElem?_eq_some_iff.1 HbX.out).1 (by simp)).trans HbX.out
    have Hl3:=(q0.block _ (Array.getElem?_eq_some_iff.1 HlX.out).1 (by simp)).trans HlX.out
    have Hg43:=(q0.block _ (Array.getElem?_eq_some_iff.1 H4X.out).1 (by simp)).trans H4X.out
    have HM3:=HMD.out.fr q0 (by simp)
    have HN3:=HNX.out.fr q0 (by simp)
    have Hk3:=HkX.out.fr q0 (by simp)
    have HB3:=Nat.le_trans HBX2.out q0.size
    have HG3:=HGX.out.trans (q0.sub (by simp))
    clear HDD HbX HlX H4X HMD HNX HkX HBX2 HGX q0
    refine reg12 HD3 HM3.fo (by have h1:=HfI.out;omega) HB3 Hbx3 Hg43 HLN.out HN3 hlm Hk3 HTK.out hl1 HKS1.out ?_
    intro a' Y1 Y2 nv sv' q1 hn q2 ho2
    have hB:=HB5.out
    have hn' : Y1.ownsRow X4.heap.size 9 1 nv ((xks.take (xks.length-1)).map (fun k=>tbN L k.toNat)).length (stC ((xks.take (xks.length-1)).map (fun k=>tbN L k.toNat))):=by rw[List.length_map,HTK.out];exact hn
    have M2:=HM3.fn HB3 q1 (nm:=xt) hn' q2 ho2 (foldD L (d++[(tn,td)])).main
    have kk:∀ {k:Nat} {o:Obj},X4.heap[k]? = some o→(Value.slice fa FF.length fc).ownBlock≠some k→Y2.heap[k]? = some o:=fun h hne=>by
     have h1:=(q1.block _ (Array.getElem?_eq_some_iff.1 h).1 (by simp)).trans h
     exact (q2.block _ (Array.getElem?_eq_some_iff.1 h1).1 (by simpa using hne)).trans h1
    have D2:=kk HD3 (HM3.off HD3 (by intro c t z e;cases e;decide)).2.1
    have L2:=kk Hl3 (HM3.off Hl3 (by intro c t z e;cases e)).2.1
    have fS:Fr [D] Y2 (Y2.setCell ⟨D,1,none⟩ sv'):=(Fr.refl _ _).setCell (.inl (by simp)) _
    have M3:=M2.fr fS (fun k hk=>by simp at hk;subst hk;exact M2.off D2 (by intro c t z e;cases e;decide))
    have D3:=set4_1 (v:=sv') D2
    have L3:=set_off (i:=1) (v:=sv') (show Z+1≠D by omega) L2
    have FW:Fr [D,Z+1] w9 (Y2.setCell ⟨D,1,none⟩ sv'):=((HG3.trans (q1.sub (by simp))).over' q2 (fun k hk=>by simp only[Option.mem_toList] at hk;exact (HM3.fo.lt k hk).1)).trans (fS.sub (fun k hk=>.inl (by simp at hk;simp[hk])))
    have HRES:=hidC (FIN.out _ _ _ _ _ _ FW L3 (by rw[HMN.out];exact D3) (by rw[HDS.out];exact M3))
    have HL3:=hidC L3
    clear FIN kk D2 L2 M2 M3 D3 L3 FW fS hn hn' ho2 q1 q2 hB
    gi_wp2
    exact⟨HL3.out,rfl,HRES.out⟩
   ·rw[if_neg hmain] at HSN
    have hs:(xt.toList == [109,97,105,110])=false:=by rw[eq0];simpa [mainB] using hmain
    clear eq0 hmain
    have HMD:=hidC HgM.out
    have HDD:=hidC HgD.out
    have HbX:=hidC Hbx.out
    have HlX:=hidC Hg3.out
    have H4X:=hidC Hg4.out
    have HNX:=hidC HgN.out
    have HkX:=hidC Hgk1.out
    have HBX2:=hidC HBS.out
    have HGX:=hidC HG1.out
    have hDS:foldD L (d++[(tn,td)]) = { foldD L d with main:=(foldD L (d++[(tn,td)])).main,fns:=(foldD L d).fns++[⟨xt,xks.length-1,(xks.take (xks.length-1)).map (fun k=>tbN L k.toNat),tn⟩] }:=by rw[HSN.out];rfl
    have HDS:=hidC hDS
    have HMN:Hid ((foldD L (d++[(tn,td)])).main=(foldD L d).main):=by unfold Hid;rw[HSN.out]
    clear hDS HSN
    gi_wp2
    refine⟨trivial,rfl,(CallsIn.inRound (Z+1) (callsIn_wide.2 (C69.out _))).mono ?_⟩
    rintro e X4 ⟨rfl,q0⟩
    gi_wp2
    have HD3:=(q0.block _ (Array.getElem?_eq_some_iff.1 HDD.out).1 (by simp)).trans HDD.out
    have Hbx3:=(q0.block _ (Array.getElem?_eq_some_iff.1 HbX.out).1 (by simp)).trans HbX.out
    have Hl3:=(q0.block _ (Array.getElem?_eq_some_iff.1 HlX.out).1 (by simp)).trans HlX.out
    have Hg43:=(q0.block _ (Array.getElem?_eq_some_iff.1 H4X.out).1 (by simp)).trans H4X.out
    have HM3:=HMD.out.fr q0 (by simp)
    have HN3:=HNX.out.fr q0 (by simp)
    have Hk3:=HkX.out.fr q0 (by simp)
    have HB3:=Nat.le_trans HBX2.out q0.size
    have HG3:=HGX.out.trans (q0.sub (by simp))
    clear HDD HbX HlX H4X HMD HNX HkX HBX2 HGX q0
    refine reg12 HD3 HM3.fo (by have h1:=HfI.out;omega) HB3 Hbx3 Hg43 HLN.out HN3 hlm Hk3 HTK.out hl1 HKS1.out ?_
    intro a' Y1 Y2 nv sv' q1 hn q2 ho2
    have hB:=HB5.out
    have hn' : Y1.ownsRow X4.heap.size 9 1 nv ((xks.take (xks.length-1)).map (fun k=>tbN L k.toNat)).length (stC ((xks.take (xks.length-1)).map (fun k=>tbN L k.toNat))):=by rw[List.length_map,HTK.out];exact hn
    have M2:=HM3.fn HB3 q1 (nm:=xt) hn' q2 ho2 (foldD L (d++[(tn,td)])).main
    have kk:∀ {k:Nat} {o:Obj},X4.heap[k]? = some o→(Value.slice fa FF.length fc).ownBlock≠some k→Y2.heap[k]? = some o:=fun h hne=>by
     have h1:=(q1.block _ (Array.getElem?_eq_some_iff.1 h).1 (by simp)).trans h
     exact (q2.block _ (Array.getElem?_eq_some_iff.1 h1).1 (by simpa using hne)).trans h1
    have D2:=kk HD3 (HM3.off HD3 (by intro c t z e;cases e;decide)).2.1
    have L2:=kk Hl3 (HM3.off Hl3 (by intro c t z e;cases e)).2.1
    have fS:Fr [D] Y2 (Y2.setCell ⟨D,1,none⟩ sv'):=(Fr.refl _ _).setCell (.inl (by simp)) _
    have M3:=M2.fr fS (fun k hk=>by simp at hk;subst hk;exact M2.off D2 (by intro c t z e;cases e;decide))
    have D3:=set4_1 (v:=sv') D2
    have L3:=set_off (i:=1) (v:=sv') (show Z+1≠D by omega) L2
    have FW:Fr [D,Z+1] w9 (Y2.setCell ⟨D,1,none⟩ sv'):=((HG3.trans (q1.sub (by simp))).over' q2 (fun k hk=>by simp only[Option.mem_toList] at hk;exact (HM3.fo.lt k hk).1)).trans (fS.sub (fun k hk=>.inl (by simp at hk;simp[hk])))
    have HRES:=hidC (FIN.out _ _ _ _ _ _ FW L3 (by rw[HMN.out];exact D3) (by rw[HDS.out];exact M3))
    have HL3:=hidC L3
    clear FIN kk D2 L2 M2 M3 D3 L3 FW fS hn hn' ho2 q1 q2 hB
    gi_wp2
    exact⟨HL3.out,rfl,HRES.out⟩
  rw[if_neg k3] at HSN
  have j3:(xk == 3)=false:=by simpa using k3
  by_cases k5:xk=5
  ·subst k5
   rw[if_pos rfl] at HSN
   have hne:=HLD.out rfl
   rw[← HgM.out.ef] at hne
   rcases List.eq_nil_or_concat FF with rfl | ⟨I,fl,hFF⟩
   ·simp at hne
   have hFF2:FF=I++[fl]:=by rw[hFF];simp
   subst hFF2
   have HIL:Hid ((I.length:Int)≤49999):=by have h1:=HBX.out.f;rw[← HgM.out.ef] at h1;simp at h1;unfold Hid;omega
   have hIL:=HIL.out
   have hfo:=HgM.out.fo
   rw[show (I++[fl]).length=I.length+1 by simp] at hfo
   have HFO:=hidC hfo
   obtain⟨_,h0 | ⟨g,gc,cur,hv,hgb,hgo,hgl,hgm,_⟩⟩:=hfo
   ·have:=h0.2;omega
   subst hv
   obtain⟨va,vc,hvv,_⟩:=own_slice (HgM.out.ff fl (by simp))
   have hgc:=HFO.out.cellAt (I.length*4+2) (by omega)
   rw[flatFn_get,hvv] at hgc
   have HVL:Hid (fl.vs.length≤100000):=by
    have h1:=HBX.out.v (FnM.d fl) (by rw[← HgM.out.ef];simp)
    unfold Hid
    simp[FnM.d] at h1
    omega
   have d1:(X1.alloc (.cells #[.int .i64 5,.string xt,.slice xa xks.length xc,.int .i64 xpl] 55)).cell? ⟨D,1,none⟩=some (.slice (some ⟨g,0,none⟩) (I.length+1) gc):=at_cells HgD.out 1 rfl
   have HGO:=hidC hgo
   have HGC:=hidC hgc
   clear hne hFF hgo hgc hgb hgl hgm
   gi_wp2
   generalize X1.alloc (.cells #[.int .i64 5,.string xt,.slice xa xks.length xc,.int .i64 xpl] 55)=X2 at *
   have hso:=HgM.out.ff fl (by simp)
   rw[hvv] at hso
   refine reg15 (fo:=I.length*4) HGO.out HGC.out hso (by have:=HVL.out;omega) HBS.out Hbx.out ?_
   intro a' Y1 v' q1 ho1 hloc
   have hB:=HB5.out
   have HG' := own_fr HFO.out q1 (fun k hk hm=>by simp only[Option.mem_toList] at hm;exact own_apart HFO.out hso (by decide) k hk hm)
   have M2:=HgM.out.var HBS.out (by rw[hvv];exact q1) ho1 (by rw[hvv];exact hloc) (X2:=Y1.setCell ⟨g,I.length*4+2,none⟩ v') ((Fr.refl _ _).setCell (.inl (by simp[Value.ownBlock])) _) (HG'.stored (I.length*4+2) v').1
   have fS:Fr [g] Y1 (Y1.setCell ⟨g,I.length*4+2,none⟩ v'):=(Fr.refl _ _).setCell (.inl (by simp)) _
   have kk:∀ {k:Nat} {o:Obj},X2.heap[k]? = some o→(Value.slice va fl.vs.length vc).ownBlock≠some k→k≠g→(Y1.setCell ⟨g,I.length*4+2,none⟩ v').heap[k]? = some o:=fun h hne hg=>by
    have h1:=(q1.block _ (Array.getElem?_eq_some_iff.1 h).1 (by simpa using hne)).trans h
    exact set_off hg h1
   have oD:=HgM.out.off HgD.out (by intro c t z e;cases e;decide)
   have oL:=HgM.out.off Hg3.out (by intro c t z e;cases e)
   have nD:D≠g:=fun e=>oD.2.1 (by rw[← e];rfl)
   have nL:Z+1≠g:=fun e=>oL.2.1 (by rw[← e];rfl)
   have vD:=oD.2.2.2.2 fl (by simp)
   have vL:=oL.2.2.2.2 fl (by simp)
   rw[hvv] at vD vL
   have D3:=kk HgD.out vD nD
   have L3:=kk Hg3.out vL nL
   have FW:Fr [D,Z+1] w9 (Y1.setCell ⟨g,I.length*4+2,none⟩ v'):=(HG1.out.over' q1 (fun k hk=>by simp only[Option.mem_toList] at hk;exact (hso.lt k hk).1)).over' fS (fun k hk=>by simp at hk;subst hk;exact (HFO.out.lt k rfl).1)
   have HRES:=hidC (FIN.out _ _ _ _ _ _ FW L3 (by rw[HSN.out];exact D3) (by rw[HSN.out];exact M2))
   have HL3:=hidC L3
   clear FIN kk M2 D3 L3 FW fS ho1 hloc hB q1 HG' oD oL nD nL vD vL hso
   gi_wp2
   exact⟨HL3.out,rfl,HRES.out⟩
  rw[if_neg k5] at HSN
  have j5:(xk == 5)=false:=by simpa using k5
  by_cases k13:xk=13
  ·subst k13
   rw[if_pos rfl] at HSN
   obtain⟨i3,hi3,hz3,hs3,hb3⟩:=info_parts info3c
   obtain⟨ma,mc,rfl,_⟩:=own_slice HgM.out.mo
   have HML:Hid ((foldD L d).merges.length≤49999):=HBX.out.m
   have dc:(X1.alloc (.cells #[.int .i64 13,.string xt,.slice xa xks.length xc,.int .i64 xpl] 55)).cell? ⟨D,3,none⟩=some (.slice ma (foldD L d).merges.length mc):=at_cells HgD.out 3 rfl
   have hnew:∀ j u,[Value.int .i64 (tn:Nat)][j]? = some u→((X1.alloc (.cells #[.int .i64 13,.string xt,.slice xa xks.length xc,.int .i64 xpl] 55)).alloc (.cells #[.int .i64 tn] 3)).cell? ((⟨X1.heap.size+1,0,none⟩ : Addr).add j)=some u:=by
    have:=new_one (X1.alloc (.cells #[.int .i64 13,.string xt,.slice xa xks.length xc,.int .i64 xpl] 55)) (.int .i64 tn) 3
    simpa only[World.size_alloc] using this
   have nX:X1.heap.size≠D:=by intro h;have h1:=HgD.out;rw[← h,Hbx.out] at h1;simp at h1
   have nX1:X1.heap.size+1≠D:=by have:=(Array.getElem?_eq_some_iff.1 HgD.out).1;simp at this;omega
   gi_wp2_with (gi_at_builtin;refine wpListIn_append_own_at _ rfl _ _ 26 rfl w9.heap.size 3 i3 (.int .i64 0) 1 8 under26c hi3 hz3 hs3 hb3 rfl (by decide) (.slice ma (foldD L d).merges.length mc) (foldD L d).merges.length (inC (foldD L d).merges) rfl (HgM.out.mo.alloc _) ⟨X1.heap.size+1,0,none⟩ 1 1 [.int .i64 (tn:Nat)] rfl rfl hnew (by simp[Value.oneCell']) (by have:=HML.out;have:maxLen=9223372036854775807:=rfl;omega) (by have:=HML.out;omega) (by have:=HBS.out;simp at this ⊢;omega) ?_)
   intro v1 W1 hown1 hgrow hnil hloc
   have hB:=HB5.out
   have f2:Fr (Value.slice ma (foldD L d).merges.length mc).ownBlock.toList (X1.alloc (.cells #[.int .i64 13,.string xt,.slice xa xks.length xc,.int .i64 xpl] 55)) W1:=((Fr.refl _ _).alloc _).trans ((Fr.ofGrown hgrow).sub (fun k hk=>.inl hk))
   have kk:∀ {k:Nat} {o:Obj},(X1.alloc (.cells #[.int .i64 13,.string xt,.slice xa xks.length xc,.int .i64 xpl] 55)).heap[k]? = some o→(Value.slice ma (foldD L d).merges.length mc).ownBlock≠some k→W1.heap[k]? = some o:=fun h hne=>(f2.block _ (Array.getElem?_eq_some_iff.1 h).1 (by simpa using hne)).trans h
   have M2:=HgM.out.merge f2 hown1
   have D2:=kk HgD.out (HgM.out.off HgD.out (by intro c t z e;cases e;decide)).2.2.1
   have L2:=kk Hg3.out (HgM.out.off Hg3.out (by intro c t z e;cases e)).2.2.1
   obtain⟨ma',mc',rfl,_⟩:=own_slice hown1
   have c3' := at_cells D2 3 rfl
   have z3:W1.frozen? ⟨D,3,none⟩=false:=by simp[World.frozen?,D2]
   have fS:Fr [D] W1 (W1.setCell ⟨D,3,none⟩ (.slice ma' ((foldD L d).merges.length+1) mc')):=(Fr.refl _ _).setCell (.inl (by simp)) _
   have M3:=M2.fr fS (fun k hk=>by simp at hk;subst hk;exact M2.off D2 (by intro c t z e;cases e;decide))
   have D3:=set4_3 (v:=.slice ma' ((foldD L d).merges.length+1) mc') D2
   have L3:=set_off (i:=3) (v:=.slice ma' ((foldD L d).merges.length+1) mc') (show Z+1≠D by omega) L2
   have FW:Fr [D,Z+1] w9 (W1.setCell ⟨D,3,none⟩ (.slice ma' ((foldD L d).merges.length+1) mc')):=(HG1.out.over' f2 (fun k hk=>by simp only[Option.mem_toList] at hk;exact (HgM.out.mo.lt k hk).1)).trans (fS.sub (fun k hk=>.inl (by simp at hk;simp[hk])))
   have HRES:=hidC (FIN.out _ _ _ _ _ _ FW L3 (by rw[HSN.out];exact D3) (by rw[HSN.out];exact M3))
   have HL3:=hidC L3
   clear FIN kk D2 L2 M2 M3 D3 L3 FW fS hown1 hgrow hnil hloc hB f2 hnew dc
   gi_wp2
   exact⟨HL3.out,rfl,HRES.out⟩
  rw[if_neg k13] at HSN
  have j13:(xk == 13)=false:=by simpa using k13
  have HRES:=hidC (FIN.out _ _ _ _ _ _ HG1.out Hg3.out (by rw[HSN.out];exact HgD.out) (by rw[HSN.out];exact HgM.out))
  have HL3:=hidC Hg3.out
  clear FIN
  gi_wp2
  exact⟨HL3.out,rfl,HRES.out⟩
 ·rintro e W5 ⟨hv,hb⟩
  rw[walkB_all0] at hb
  obtain⟨_,f,h2,sv,fv,mv,SS,FF,hXD,hDM⟩:=hb
  simp only at h2 hXD hDM
  refine⟨hv,.inl ⟨h2,?_⟩⟩
  have hB:=HB5.out
  have hW9:=HW9.out
  have F1:Fr [D,Z+1] w9 (W5.putObj (Z+1) (.loop (rec .exhausted none))):=f.trans ((Fr.putObj _).sub (fun k hk=>.inl (by simp at hk;simp[hk])))
  have y1:=hDM.fr (Fr.putObj (W:=W5) (l:=Z+1) (.loop (rec .exhausted none))) (fun k hk=>by simp at hk;subst hk;exact hDM.off h2 (by intro c t z e;cases e))
  have yD:(W5.putObj (Z+1) (.loop (rec .exhausted none))).heap[D]? = _:=(World.putObj_heap_other (by omega)).trans hXD
  have yR:=(F1.block _ (Array.getElem?_eq_some_iff.1 r9).1 (by simp;omega)).trans r9
  have y6:=(F1.block _ (Array.getElem?_eq_some_iff.1 hD9).1 (by simp;omega)).trans hD9
  have HF:Hid (Fr [] w (W5.putObj (Z+1) (.loop (rec .exhausted none)))):=((F9.sub (T:=[D,Z+1]) (by simp)).trans F1).sub (fun k hk=>.inr (by simp at hk;omega))
  clear hYr f h2 F1 hXD
  generalize W5.putObj (Z+1) (.loop (rec .exhausted none))=W6 at *
  obtain⟨sa,sc,rfl,_⟩:=own_slice y1.so
  obtain⟨fa,fc,rfl,_⟩:=own_slice y1.fo
  obtain⟨ma,mc,rfl,_⟩:=own_slice y1.mo
  have c0:=at_cells yD 0 rfl
  have c1:=at_cells yD 1 rfl
  have c2:=at_cells yD 2 rfl
  have c3:=at_cells yD 3 rfl
  have e0:=at_cells yR 0 rfl
  have e1:=at_cells yR 1 rfl
  have e2:=at_cells yR 2 rfl
  have e3:=at_cells yR 3 rfl
  have z0:∀ i,W6.frozen? ⟨w.heap.size+1,i,none⟩=false:=fun i=>by simp[World.frozen?,yR]
  have HY:=hidC y1
  have HDM:=hidC yR
  clear y1 hDM hB hW9
  gi_wp2
  have f7:Fr [w.heap.size+1] W6 ((((W6.setCell ⟨w.heap.size+1,0,none⟩ (.slice sa SS.length sc)).setCell ⟨w.heap.size+1,1,none⟩ (.slice fa FF.length fc)).setCell ⟨w.heap.size+1,2,none⟩ (.int .i64 ((foldD L T).main:Nat))).setCell ⟨w.heap.size+1,3,none⟩ (.slice ma (foldD L T).merges.length mc)):=((((Fr.refl _ _).setCell (.inl (by simp)) _).setCell (.inl (by simp)) _).setCell (.inl (by simp)) _).setCell (.inl (by simp)) _
  have b7:=set4_3 (v:=.slice ma (foldD L T).merges.length mc) (set4_2 (v:=.int .i64 ((foldD L T).main:Nat)) (set4_1 (v:=.slice fa FF.length fc) (set4_0 (v:=.slice sa SS.length sc) yR)))
  generalize (((W6.setCell ⟨w.heap.size+1,0,none⟩ (.slice sa SS.length sc)).setCell ⟨w.heap.size+1,1,none⟩ (.slice fa FF.length fc)).setCell ⟨w.heap.size+1,2,none⟩ (.int .i64 ((foldD L T).main:Nat))).setCell ⟨w.heap.size+1,3,none⟩ (.slice ma (foldD L T).merges.length mc)=W7 at *
  have hB:=HB5.out
  have y7:=HY.out.fr f7 (fun k hk=>by simp at hk;subst hk;exact HY.out.off yR (by intro c t z e;cases e;decide))
  refine leave_marks2 (v:=.agg #[.slice sa SS.length sc,.slice fa FF.length fc,.int .i64 ((foldD L T).main:Nat),.slice ma (foldD L T).merges.length mc]) [Z] _ (by simp) (fun r hr=>?_) (fun X' hF=>⟨?_,.slice sa SS.length sc,.slice fa FF.length fc,.slice ma (foldD L T).merges.length mc,?_,⟨SS,FF,?_⟩,?_⟩)
  ·simp at hr
   subst hr
   exact (f7.block _ (Array.getElem?_eq_some_iff.1 y6).1 (by simp;omega)).trans y6
  ·have bX:=(hF.block _ (Array.getElem?_eq_some_iff.1 b7).1 (by simp;omega)).trans b7
   have c0:=at_cells bX 0 rfl
   have c1:=at_cells bX 1 rfl
   have c2:=at_cells bX 2 rfl
   have c3:=at_cells bX 3 rfl
   simp[results,Tryz.results38,go_sem,c0,c1,c2,c3]
  ·rw[HDE.out]
  ·rw[HDE.out]
   have y6' := (f7.block _ (Array.getElem?_eq_some_iff.1 y6).1 (by simp;omega)).trans y6
   have y8:=y7.fr hF (fun k hk=>by simp at hk;subst hk;exact y7.off y6' (by intro c t z e;cases e))
   have hw9:w.heap.size≤w9.heap.size:=HW9.out.1
   exact⟨own_base hw9 y8.so,own_base hw9 y8.fo,own_base hw9 y8.mo,fun s hs=>own_base hw9 (y8.ss s hs),fun g hg=>own_base hw9 (y8.ff g hg),y8.es,y8.ef,y8.ap⟩
  ·exact ((HF.out.sub (T:=[w.heap.size+1,Z]) (by simp)).trans ((f7.sub (fun k hk=>.inl (by simp at hk;simp[hk]))).trans (hF.sub (fun k hk=>.inl (by simp at hk;simp[hk]))))).sub (fun k hk=>.inr (by simp at hk;omega))
end Go.Proofs.YtnmfcaahdeddnaaGreatDoor.T5
