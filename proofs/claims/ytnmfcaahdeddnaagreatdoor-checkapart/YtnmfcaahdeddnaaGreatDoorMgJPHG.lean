/-
  Parts of the proof; conditions: as each says.
-/
import Derived.Test.YtnmfcaahdeddnaaGreatDoorMgDMCO
set_option maxRecDepth 100000
namespace Go.Proofs.YtnmfcaahdeddnaaGreatDoor.T5
open Go.RowKit Go.Shelf
attribute [local go_sem] Oper.semAt_some store_func
set_option linter.unusedVariables false
def treeW (L:List Nd) : List (Nat×Nat):=if (checkL L).2=0 then wk L (L.length-1) 0 else []
def WG (w:World) (bo D l:Nat) (rec:LoopState→Option Code→Loop) (d:List (Nat×Nat)) (K:List Nat) (X:World) : Prop :=
 Fr [] w X∧X.heap[l]? = some (.loop (rec .ready none))∧X.heap[D]? = some (.deferred (some []))∧∃ sv,X.heap[bo]? = some (.cells #[sv] 155 (0,0))∧X.ownsRow w.heap.size 158 2 sv d.length (flatS d)∧K=l::bo::sv.ownBlock.toList
def walkOut (L:List Nd) (w w' : World) (e:Ending) : Prop :=
 ∃ bo sv,e = .returned (.func (.func 99) #[] #[.pointer (some ⟨bo,0,none⟩)])∧w.heap.size≤bo∧w'.heap[bo]? = some (.cells #[sv] 155 (0,0))∧w'.ownsRow w.heap.size 158 2 sv (treeW L).length (flatS (treeW L))∧Fr [] w w'
set_option maxHeartbeats 4000000 in
theorem walk_any (B:Nat) (L:List Nd) (w:World) (a:Option Addr) (len cap:Nat) (hlen:L.length=len) (hL:NAt B w a L) (hm:len≤2600000000000) (hB:B≤w.heap.size) (TT:Tabs w) :
 Calls Tryz.prog 67 #[.slice a len cap] w fun e w'=>walkOut L w w' e:=by
 obtain⟨i5,hi,hz,hz1,hby⟩:=info_parts info53
 have HL:Hid (L.length=len):=hlen
 have HB:Hid (B≤w.heap.size):=hB
 have f0:Fr [] w (w.alloc (.cells #[.slice none 0 0] 155)):=(Fr.refl _ _).alloc _
 have b0:(w.alloc (.cells #[.slice none 0 0] 155)).heap[w.heap.size]? = some (.cells #[.slice none 0 0] 155 (0,0)):=heap_alloc_new w _
 have C:=check_any B L (w.alloc (.cells #[.slice none 0 0] 155)) a len cap hlen (hL.fr f0 (by simp)) hm (Nat.le_trans hB f0.size) (TT.fr f0 (by simp))
 have HT:Hid (treeW L=if (checkL L).2=0 then wk L (len-1) 0 else []):=by unfold Hid treeW;rw[HL.out]
 clear hB hlen
 unfold cOut at C
 have HO:=fun {p}=>tree_once (L:=L) (p:=p)
 generalize hR:checkL L=R at C
 obtain⟨p0,er⟩:=R
 refine callsIn_wide.1 (callsIn_of_wp_marks (n:=0) Tryz.func67 rfl trivial ?_ rfl)
 simp only[Tryz.ntmps67,List.size_toArray,List.length_cons,List.length_nil,Nat.reduceAdd,Nat.reduceSub,Array.replicate_succ,Array.replicate_zero,List.push_toArray,List.append_toArray,List.nil_append,List.cons_append]
 gi_wp2
 generalize w.alloc (.cells #[.slice none 0 0] 155)=w0 at *
 refine⟨trivial,rfl,(callsIn_wide.2 C).mono ?_⟩
 rintro e w1 ⟨rfl,f1⟩
 have b1:=(f1.block _ (Array.getElem?_eq_some_iff.1 b0).1 (by simp)).trans b0
 have F1:=f0.trans f1
 have HN1:Hid (w.heap.size<w1.heap.size):=(Array.getElem?_eq_some_iff.1 b1).1
 clear C f0 f1 b0
 by_cases h0:er=0
 ·subst h0
  obtain⟨hA,hpos,h5,_,hwl⟩:=HO hR
  have HT2:Hid (treeW L=wk L (len-1) 0):=by unfold Hid;rw[HT.out,hR];rfl
  rw[HL.out] at hpos h5 hwl
  obtain⟨w2,hmk,hown2,hgr2⟩:=run_make_own (P:=Tryz.prog) w1 w.heap.size 155 158 i5 (.agg #[.int .i64 0,.int .i64 0]) 2 under50 hi hz hz1 .i64 .i64 len (by rw[hby];omega) (by have:maxLen=9223372036854775807:=rfl;omega) (by have:=HN1.out;omega)
  have g2:=Fr.ofGrown hgr2
  have b2:=(g2.block _ (Array.getElem?_eq_some_iff.1 b1).1 (by simp)).trans b1
  have c2:=at_cells b2 0 rfl
  have z2:w2.frozen? ⟨w.heap.size,0,none⟩=false:=by simp[World.frozen?,b2]
  have f3:Fr [w.heap.size] w2 (w2.setCell ⟨w.heap.size,0,none⟩ (.slice (some ⟨w1.heap.size,0,none⟩) 0 len)):=Fr.setCell (Fr.refl _ _) (.inl (by simp)) _
  have b3:=set_same (v:=.slice (some ⟨w1.heap.size,0,none⟩) 0 len) b2
  have own3:=own_fr hown2 f3 (fun k hk=>by simp[Value.ownBlock] at hk;subst hk;have:=HN1.out;simp;omega)
  have F3:Fr [] w (w2.setCell ⟨w.heap.size,0,none⟩ (.slice (some ⟨w1.heap.size,0,none⟩) 0 len)):=(((F1.trans (g2.sub (by simp))).sub (T:=[w.heap.size]) (by simp)).trans f3).sub (fun k hk=>.inr (by simp at hk;omega))
  have hp1:(len:Int)-1=((len-1:Nat) : Int):=by omega
  clear hR HT
  gi_wp2
  clear hmk hown2 hgr2 g2 b2 c2 z2 f3
  generalize w2.setCell ⟨w.heap.size,0,none⟩ (.slice (some ⟨w1.heap.size,0,none⟩) 0 len)=w3 at *
  refine⟨trivial,rfl,(callsIn_wide.2 (below_any _ _ _ _ w3)).mono ?_⟩
  rintro e w4 ⟨rfl,rfl⟩
  have f4:Fr [] w3 ((w3.alloc (.cells #[.slice a len cap] 23)).alloc (.cells #[.int .i64 ((len-1:Nat) : Int)] 3)):=((Fr.refl _ _).alloc _).alloc _
  have q2:=blk2 w3 (.cells #[.slice a len cap] 23) (.cells #[.int .i64 ((len-1:Nat) : Int)] 3)
  have q1:((w3.alloc (.cells #[.slice a len cap] 23)).alloc (.cells #[.int .i64 ((len-1:Nat) : Int)] 3)).heap[w3.heap.size]? = some (.cells #[.slice a len cap] 23 (0,0)):=by
   rw[Below.heap_alloc _ _ _ (by simp)]
   exact heap_alloc_new w3 _
  have b4:=(f4.block _ (Array.getElem?_eq_some_iff.1 b3).1 (by simp)).trans b3
  have own4:=own_fr own3 f4 (by simp)
  have F4:=F3.trans f4
  have HN3:Hid (w.heap.size<w3.heap.size):=(Array.getElem?_eq_some_iff.1 b3).1
  have HOM:Hid (w1.heap.size<w3.heap.size):=(own3.lt w1.heap.size rfl).2
  clear b3 own3 F3 f4
  generalize (w3.alloc (.cells #[.slice a len cap] 23)).alloc (.cells #[.int .i64 ((len-1:Nat) : Int)] 3)=w4 at *
  have hown4:Hid (w1.heap.size<w4.heap.size):=(own4.lt w1.heap.size rfl).2
  have HN34:Hid (w3.heap.size+1<w4.heap.size):=(Array.getElem?_eq_some_iff.1 q2).1
  generalize w3.heap.size=M at *
  gi_wp2
  refine range_outer (gf:=144) (lb:=#[.pointer (some ⟨M+1,0,none⟩),.pointer (some ⟨M,0,none⟩)]) rfl (enters_of Tryz.func144 (by kernel_rfl) rfl) ?_
  intro rec hYr
  show CallsIn Fence.wide 0 Tryz.prog 144 #[.func (.yield (w4.heap.size+1)) #[] #[],.pointer (some ⟨M+1,0,none⟩),.pointer (some ⟨M,0,none⟩)] _ _
  have f5:Fr [] w4 ((w4.alloc (.deferred (some []))).alloc (.loop (rec .ready none))):=((Fr.refl _ _).alloc _).alloc _
  have hL5:=blk2 w4 (.deferred (some [])) (.loop (rec .ready none))
  have hD5:((w4.alloc (.deferred (some []))).alloc (.loop (rec .ready none))).heap[w4.heap.size]? = some (.deferred (some [])):=(Below.heap_alloc _ _ _ (by simp)).trans (heap_alloc_new w4 _)
  generalize (w4.alloc (.deferred (some []))).alloc (.loop (rec .ready none))=w5 at *
  have F5:=F4.trans f5
  have kp:∀ {k:Nat} {o:Obj},w4.heap[k]? = some o→w5.heap[k]? = some o:=fun h=>(f5.block _ (Array.getElem?_eq_some_iff.1 h).1 (by simp)).trans h
  have own5:=own_fr own4 f5 (by simp)
  have q1:=kp q1
  have q2:=kp q2
  have b5:=kp b4
  have HS5:Hid (w4.heap.size+1<w5.heap.size):=(Array.getElem?_eq_some_iff.1 hL5).1
  clear kp own4 b4 f5 F4
  have hG:∀ d K X X' S,WG w w.heap.size w4.heap.size (w4.heap.size+1) rec d K X→Fr S X X'→(∀ j∈S,j∉K∧w5.heap.size≤j)→WG w w.heap.size w4.heap.size (w4.heap.size+1) rec d K X' := by
   rintro d K X X' S ⟨h1,h2,h3,sv,h4,h5,rfl⟩ hF hS
   have kq:∀ {k:Nat} {o:Obj},k<w5.heap.size→X.heap[k]? = some o→X'.heap[k]? = some o:=fun hk h=>(hF.block _ (Array.getElem?_eq_some_iff.1 h).1 (fun hm=>by have:=(hS _ hm).2;omega)).trans h
   have:=HS5.out
   have:=HN3.out
   have:=HN34.out
   exact⟨((h1.sub (T:=S) (by simp)).trans hF).sub (fun k hk=>.inr (by have:=(hS k hk).2;have:=F5.size;omega)),kq (by omega) h2,kq (by omega) h3,sv,kq (by omega) h4,own_fr h5 hF (fun k hk hm=>(hS k hm).1 (by simp[hk])),rfl⟩
  refine (below1 (WG w w.heap.size w4.heap.size (w4.heap.size+1) rec) L hA a len cap HL.out h5 B (w4.heap.size+1) (M+1) M (len-1) (by omega) (by rw[hwl];omega) w5 (Nat.le_trans HB.out F5.size) ?_ hG ?_ _ ⟨F5,hL5,hD5,_,b5,own5,rfl⟩ (hL.fr F5 (by simp)) q2 q1 ?_).mono ?_
  ·rintro d K X ⟨h1,h2,h3,sv,h4,h5,rfl⟩ j hj
   have e1:=HB.out
   have e2:=(Array.getElem?_eq_some_iff.1 h2).1
   have e3:=(Array.getElem?_eq_some_iff.1 h4).1
   have e4:=HN34.out
   have e5:=HN3.out
   simp only[List.mem_cons,Option.mem_toList] at hj
   rcases hj with rfl | rfl | hj
   ·omega
   ·omega
   ·have:=h5.lt j hj;omega
  ·rintro d K ⟨tn,td⟩ X ⟨h1,h2,h3,sv,h4,h5,rfl⟩ ⟨r,hr⟩
   have HDL:Hid (d.length+1≤50000):=by
    have:=congrArg List.length hr
    simp at this
    unfold Hid
    omega
   have HSX:Hid (w4.heap.size+1<X.heap.size):=(Array.getElem?_eq_some_iff.1 h2).1
   obtain⟨sa,sc,rfl,_⟩:=own_slice h5
   refine hYr _ X _ rfl h2 ?_
   clear hYr hr hG
   gi_wp2
   refine⟨h2,?_⟩
   have e4:=HN34.out
   have e5:=HN3.out
   have ne0:w.heap.size≠w4.heap.size+1:=by omega
   have f6:=Fr.putObj (W:=X) (l:=w4.heap.size+1) (.loop (rec .busy none))
   have y1:(X.putObj (w4.heap.size+1) (.loop (rec .busy none))).heap[w.heap.size]? = _:=(World.putObj_heap_other ne0).trans h4
   have y2:(X.putObj (w4.heap.size+1) (.loop (rec .busy none))).heap[w4.heap.size]? = _:=(World.putObj_heap_other (by omega)).trans h3
   have y3:=World.putObj_heap_same (w:=X) (r:=w4.heap.size+1) (o:=.loop (rec .busy none)) (Array.getElem?_eq_some_iff.1 h2).1
   have y5:=own_fr h5 f6 (fun k hk=>by simp;rintro rfl;exact own_notloop h5 h2 (by intro c t z e;cases e) hk)
   have HXY:Hid (X.heap.size≤(X.putObj (w4.heap.size+1) (.loop (rec .busy none))).heap.size):=f6.size
   generalize X.putObj (w4.heap.size+1) (.loop (rec .busy none))=X1 at *
   clear h2 h3 h4
   have ca:=at_cells y1 0 rfl
   have hnew:∀ j u,[Value.int .i64 (tn:Int),Value.int .i64 (td:Int)][j]? = some u→(X1.alloc (.cells #[.int .i64 (tn:Int),.int .i64 (td:Int)] 158)).cell? ((⟨X1.heap.size,0,none⟩ : Addr).add j)=some u:=by
    intro j u hu
    have hadd:(⟨X1.heap.size,0,none⟩ : Addr).add j = ⟨X1.heap.size,j,none⟩:=by unfold Addr.add;split <;> simp_all
    rw[hadd]
    exact at_cells (heap_alloc_new X1 _) j (by simpa using hu)
   have HX1:Hid (w.heap.size<X1.heap.size):=(Array.getElem?_eq_some_iff.1 y1).1
   gi_wp2_with (gi_at_builtin;refine wpListIn_append_own_at _ rfl _ _ 155 rfl w.heap.size 158 i5 (.agg #[.int .i64 0,.int .i64 0]) 2 16 under50 hi hz hz1 hby rfl (by decide) (.slice sa d.length sc) d.length (flatS d) rfl (y5.alloc _) ⟨X1.heap.size,0,none⟩ 1 1 [.int .i64 (tn:Int),.int .i64 (td:Int)] rfl rfl hnew (by simp[Value.oneCell']) (by have:=HDL.out;have:maxLen=9223372036854775807:=rfl;omega) (by have:=HDL.out;omega) (by have:=HX1.out;simp;omega) ?_)
   intro v1 w6 hown1 hgrow hnil hloc
   have f2:Fr (Value.slice sa d.length sc).ownBlock.toList X1 w6:=((Fr.refl _ _).alloc _).trans ((Fr.ofGrown hgrow).sub (fun k hk=>.inl hk))
   have keep:∀ {k:Nat} {o:Obj},X1.heap[k]? = some o→(Value.slice sa d.length sc).ownBlock≠some k→w6.heap[k]? = some o:=fun h1 hne=>(f2.block _ (Array.getElem?_eq_some_iff.1 h1).1 (by simpa using hne)).trans h1
   have z1:=keep y1 (own_ne y5 y1 (by decide))
   have z2:=keep y2 (own_notloop y5 y2 (by intro c t z e;cases e))
   have z3:=keep y3 (own_notloop y5 y3 (by intro c t z e;cases e))
   have cb1:=at_cells z1 0 rfl
   have fb1:w6.frozen? ⟨w.heap.size,0,none⟩=false:=by simp[World.frozen?,z1]
   have hlo:Hid (∀ k,(Value.slice sa d.length sc).ownBlock=some k→w.heap.size≤k):=fun k hk=>(y5.lt k hk).1
   obtain⟨av,cv,hv,_⟩:=own_slice hown1
   subst hv
   have hln:Hid (∀ k,(Value.slice av (d.length+1) cv).ownBlock=some k→(Value.slice sa d.length sc).ownBlock=some k∨X.heap.size≤k):=fun k hk=>by
    rcases hloc with h1 | h1
    ·exact .inl (by rw[← h1];exact hk)
    ·rw[h1] at hk
     simp at hk
     have:=HXY.out
     exact .inr (by omega)
   have ne1:=own_ne hown1 z1 (by decide)
   clear ca hgrow hnew keep y1 y2 y3 hloc hnil y5
   gi_wp2
   have f3:Fr [w.heap.size] w6 (w6.setCell ⟨w.heap.size,0,none⟩ (.slice av (d.length+1) cv)):=Fr.setCell (Fr.refl _ _) (.inl (by simp)) _
   have keep3:∀ {k:Nat} {o:Obj},k≠w.heap.size→w6.heap[k]? = some o→(w6.setCell ⟨w.heap.size,0,none⟩ (.slice av (d.length+1) cv)).heap[k]? = some o:=fun hk h1=>(f3.block _ (Array.getElem?_eq_some_iff.1 h1).1 (by simpa using hk)).trans h1
   have p1:=set_same (v:=.slice av (d.length+1) cv) z1
   have p2:=keep3 (by omega) z2
   have p3:=keep3 (by omega) z3
   have p5:=own_fr hown1 f3 (fun k hk=>by simp;rintro rfl;exact ne1 hk)
   have FX:Fr ((w4.heap.size+1)::w.heap.size::(Value.slice sa d.length sc).ownBlock.toList) X (w6.setCell ⟨w.heap.size,0,none⟩ (.slice av (d.length+1) cv)) :=
    (f6.sub (fun k hk=>.inl (by simp at hk;simp[hk]))).trans ((f2.sub (fun k hk=>.inl (by simp at hk;simp[hk]))).trans (f3.sub (fun k hk=>.inl (by simp at hk;simp[hk]))))
   clear keep3 z1 z2 z3 cb1 fb1 f2 f3 f6
   generalize w6.setCell ⟨w.heap.size,0,none⟩ (.slice av (d.length+1) cv)=w7 at *
   have f8:=Fr.putObj (W:=w7) (l:=w4.heap.size+1) (.loop (rec .ready none))
   have FX8:=FX.trans (f8.sub (fun k hk=>.inl (by simp at hk;simp[hk])))
   refine⟨p3,rfl,FX8,_,⟨?_,World.putObj_heap_same (Array.getElem?_eq_some_iff.1 p3).1,(World.putObj_heap_other (by omega)).trans p2,_,(World.putObj_heap_other ne0).trans p1,?_,rfl⟩,?_⟩
   ·refine ((h1.sub (T:=(w4.heap.size+1)::w.heap.size::(Value.slice sa d.length sc).ownBlock.toList) (by simp)).trans FX8).sub (fun k hk=>.inr ?_)
    simp only[List.mem_cons,Option.mem_toList] at hk
    rcases hk with rfl | rfl | hk
    ·omega
    ·omega
    ·exact hlo.out k hk
   ·rw[flatS_append]
    have:=own_fr p5 f8 (fun k hk=>by simp;rintro rfl;exact own_notloop p5 p3 (by intro c t z e;cases e) hk)
    simpa [flatS] using this
   ·intro j hj
    simp only[List.mem_cons,Option.mem_toList] at hj ⊢
    rcases hj with rfl | rfl | hj
    ·exact .inl (.inl rfl)
    ·exact .inl (.inr (.inl rfl))
    ·rcases hln.out j hj with h | h
     ·exact .inl (.inr (.inr h))
     ·exact .inr h
  ·have e4:=HN34.out
   have e5:=HN3.out
   have e6:=HOM.out
   simp[Value.ownBlock]
   omega
  ·rintro e W2 ⟨hv,K',h1,h2,h3,sv,h4,h5',rfl⟩
   refine⟨hv,.inl ⟨h2,?_⟩⟩
   have e4:=HN34.out
   have e5:=HN3.out
   have f8:=Fr.putObj (W:=W2) (l:=w4.heap.size+1) (.loop (rec .exhausted none))
   have p2:(W2.putObj (w4.heap.size+1) (.loop (rec .exhausted none))).heap[w4.heap.size]? = _:=(World.putObj_heap_other (by omega)).trans h3
   have p1:(W2.putObj (w4.heap.size+1) (.loop (rec .exhausted none))).heap[w.heap.size]? = _:=(World.putObj_heap_other (by omega)).trans h4
   have p5:=own_fr h5' f8 (fun k hk=>by simp;rintro rfl;exact own_notloop h5' h2 (by intro c t z e;cases e) hk)
   have F8:Fr [] w (W2.putObj (w4.heap.size+1) (.loop (rec .exhausted none))):=((h1.sub (T:=[w4.heap.size+1]) (by simp)).trans f8).sub (fun k hk=>.inr (by simp at hk;omega))
   generalize W2.putObj (w4.heap.size+1) (.loop (rec .exhausted none))=W3 at *
   clear hYr hG h2 h3 h4 h5' f8
   gi_wp2
   refine⟨by simp,.inl ⟨_,_,rfl,run_takeDeferred p2,?_⟩⟩
   have f9:=Fr.putObj (W:=W3) (l:=w4.heap.size) (.deferred none)
   refine⟨_,results_tmp rfl _ _ _,w.heap.size,sv,rfl,Nat.le_refl _,(World.putObj_heap_other (by omega)).trans p1,?_,((F8.sub (T:=[w4.heap.size]) (by simp)).trans f9).sub (fun k hk=>.inr (by simp at hk;omega))⟩
   rw[HT2.out]
   exact own_fr p5 f9 (fun k hk=>by simp;rintro rfl;exact own_notloop p5 p2 (by intro c t z e;cases e) hk)
 ·have HT2:Hid (treeW L = []):=by unfold Hid;rw[HT.out,hR,if_neg h0]
  have h0' : ((er:Int) == 0)=false:=beq_int_false (by omega)
  gi_wp2
  refine⟨_,results_tmp rfl _ _ _,w.heap.size,_,rfl,Nat.le_refl _,b1,?_,F1⟩
  rw[HT2.out]
  exact World.ownsRow_nil _ _ _ _
/-! The row told one by one. -/
def walkB (go:List (Nat×Nat)→Bool) : List (Nat×Nat)→List (Nat×Nat)→Bool×List (Nat×Nat)
 | d,[]=>(true,d)
 | d,t::r=>if go (d++[t]) then walkB go (d++[t]) r else (false,d++[t])
set_option maxHeartbeats 2000000 in
theorem told1 (go:List (Nat×Nat)→Bool) (G:List (Nat×Nat)→World→Prop) (Q:Bool→List (Nat×Nat)→World→Prop) (l bo B:Nat) (sv:Value) (T:List (Nat×Nat)) (hT:T.length≤50000)
 (hK:∀ d X,G d X→X.heap[bo]? = some (.cells #[sv] 155 (0,0))∧X.ownsRow B 158 2 sv T.length (flatS T))
 (hG:∀ d X o,G d X→G d (X.alloc o)) (hE:∀ d X,G d X→Q true d X)
 (hY:∀ d t X,G d X→(∃ r,T=d++t::r)→YieldAt Fence.wide 0 Tryz.prog l #[.int .i64 ((t:Nat×Nat).1:Nat),.int .i64 (t.2:Nat)] X (fun e X'=>e = .returned (.bool (go (d++[t])))∧(if go (d++[t]) then G (d++[t]) X' else Q false (d++[t]) X')))
 (W:World) (h0:G [] W) :
 CallsIn Fence.wide 0 Tryz.prog 99 #[.func (.yield l) #[] #[],.pointer (some ⟨bo,0,none⟩)] W fun e W'=>(∃ v,e = .returned v)∧Q (walkB go [] T).1 (walkB go [] T).2 W' := by
 refine callsIn_of_wp Tryz.func99 rfl trivial ?_ rfl
 simp only[Tryz.ntmps99,List.size_toArray,List.length_cons,List.length_nil,Nat.reduceAdd,Nat.reduceSub,Array.replicate_succ,Array.replicate_zero,List.push_toArray,List.append_toArray,List.nil_append,List.cons_append]
 obtain⟨hb0,ho0⟩:=hK [] W h0
 obtain⟨sa,sc,rfl,_⟩:=own_slice ho0
 have cb:=at_cells hb0 0 rfl
 have hT' : (T.length:Int)≤50000:=by omega
 gi_wp2
 gi_loopw [7] (fun i wr=>∃ p:Nat,p≤T.length∧i = .int .i64 p∧G (T.take p) wr∧Hid (walkB go (T.take p) (T.drop p)=walkB go [] T)) (fun i _=>T.length-(intOf i).toNat)
 case atStart=>exact⟨0,Nat.zero_le _,rfl,by simpa using h0,by unfold Hid;simp⟩
 case round =>
  obtain⟨p,hp,rfl,hg,hr⟩:=hrel
  by_cases hlt:p<T.length
  ·have hx:T[p]? = some T[p]:=List.getElem?_eq_getElem hlt
   have hdr:=List.drop_eq_getElem_cons hlt
   have htk:Hid (T.take (p+1)=T.take p++[T[p]]):=by unfold Hid;rw[List.take_add_one,hx];simp
   have hsp:T=T.take p++T[p]::T.drop (p+1):=by rw[← hdr,List.take_append_drop]
   generalize T[p]=t at hx hdr htk hsp
   obtain⟨hb,ho⟩:=hK _ _ hg
   obtain⟨g,c,e1,_,_,_,hcell⟩:=own_cell ho (by omega)
   injection e1 with e1 e2 e3
   subst e1
   clear e2 e3
   obtain⟨tn,td⟩:=t
   have c0:=hcell (p*2) _ (by omega) (flatS_get hx).1
   have c1:=hcell (p*2+1) _ (by omega) (flatS_get hx).2
   have f1:Fr [] wr (wr.alloc (.cells #[.int .i64 tn,.int .i64 td] 158)):=(Fr.refl _ _).alloc _
   have nb:(wr.alloc (.cells #[.int .i64 tn,.int .i64 td] 158)).heap[wr.heap.size]? = some (.cells #[.int .i64 tn,.int .i64 td] 158 (0,0)):=heap_alloc_new wr _
   have n0:=at_cells nb 0 (u:=.int .i64 tn) rfl
   have n1:=at_cells nb 1 (u:=.int .i64 td) rfl
   obtain⟨fn,tmps,assign,body,hy,hR⟩:=hY (T.take p) (tn,td) _ (hG _ _ (.cells #[.int .i64 tn,.int .i64 td] 158) hg) ⟨_,hsp⟩
   simp only at c0 c1
   have hw:Hid (walkB go [] T=if go (T.take p++[(tn,td)]) then walkB go (T.take p++[(tn,td)]) (T.drop (p+1)) else (false,T.take p++[(tn,td)])):=by unfold Hid;rw[← hr.out,hdr];rfl
   clear hx hdr hsp hr hcell
   gi_wp2
   refine⟨rfl,hR.mono ?_⟩
   rintro e X' ⟨rfl,hGQ⟩
   clear hR hy n0 n1 c0 c1 nb f1
   cases hgo:go (T.take p++[(tn,td)])
   ·rw[hgo] at hw hGQ
    simp only[Bool.false_eq_true,if_false] at hw hGQ
    gi_wp2
    refine bodyPost_ret (results_none rfl _ _ _) rfl ?_
    rw[hw.out]
    exact⟨⟨_,rfl⟩,hGQ⟩
   ·rw[hgo] at hw hGQ
    simp only[if_true] at hw hGQ
    gi_wp2
    go_roundw
    case rel=>exact⟨p+1,hlt,by go_num,by rw[htk.out];exact hGQ,by rw[htk.out];exact hw.out.symm⟩
    case measure=>simp[intOf];omega
  ·have hpe:p=T.length:=by omega
   subst hpe
   have hw:Hid (walkB go [] T=(true,T)):=by unfold Hid;rw[← hr.out];simp[walkB]
   gi_wp2
   go_end0
   rw[hw.out]
   refine⟨⟨_,rfl⟩,hE _ _ ?_⟩
   simpa using hg
end Go.Proofs.YtnmfcaahdeddnaaGreatDoor.T5
