/-
  Parts of the proof; conditions: as each says.
-/
import Derived.Test.YtnmfcaahdeddnaaGreatDoorMgFOEL
import Derived.Test.YtnmfcaahdeddnaaGreatDoorMgJLIC
import Derived.Test.YtnmfcaahdeddnaaGreatDoorMgNAHF
set_option maxRecDepth 100000
namespace Go.Proofs.YtnmfcaahdeddnaaGreatDoor.T5
open Go.RowKit Go.Maps
set_option linter.unusedVariables false
set_option linter.unusedSimpArgs false
theorem addVar_mem (v:ByteArray) : ∀ (l:List FnD) (g:FnD),g∈addVar v l→∃ f∈l,g.params=f.params∧g.node=f.node
 | [],g,h=>by simp[addVar] at h
 | [f],g,h=>by
   simp[addVar] at h
   subst h
   exact⟨f,by simp,rfl,rfl⟩
 | f::f2::r,g,h=>by
   rw[addVar,List.mem_cons] at h
   rcases h with rfl | h
   ·exact⟨g,by simp,rfl,rfl⟩
   ·obtain⟨x,hx,h1⟩:=addVar_mem v (f2::r) g h
    exact⟨x,by simp[hx],h1⟩
theorem foldD_fns {L:List Nd} (d:List (Nat×Nat)) : ∀ f∈(foldD L d).fns,f.params=(kN L f.node).length-1∧kdN L f.node=3:=by
 have key:∀ (r:List (Nat×Nat)),∀ f∈(foldD L r.reverse).fns,f.params=(kN L f.node).length-1∧kdN L f.node=3:=by
  intro r
  induction r with
  | nil=>intro f hf;simp[foldD] at hf
  | cons t r ih =>
    rw[List.reverse_cons,foldD_snoc]
    generalize foldD L r.reverse=D at *
    unfold stepD
    intro f hf
    split at hf
    ·exact ih f hf
    ·split at hf
     ·rename_i _ h3
      simp only[List.mem_append,List.mem_singleton] at hf
      rcases hf with hf | rfl
      ·exact ih f hf
      ·exact⟨rfl,h3⟩
     ·split at hf
      ·obtain⟨g,hg,h1,h2⟩:=addVar_mem _ _ f hf
       rw[h1,h2]
       exact ih g hg
      ·split at hf
       ·exact ih f hf
       ·exact ih f hf
 have:=key d.reverse
 rwa [List.reverse_reverse] at this
def sliceA:Value→Option Addr
 | .slice a _ _=>a
 | _=>none
def sliceC:Value→Nat
 | .slice _ _ c=>c
 | _=>0
def FnM.c (f:FnM) : FnC:=⟨f.nm,sliceA f.vv,f.vs.length,sliceC f.vv,f.nd⟩
theorem flatFn_at:∀ {l:List FnM} {i:Nat} {f:FnM},l[i]? = some f→(flatFn l)[i*4]? = some (.string f.nm)∧(flatFn l)[i*4+1]? = some (.int .i64 (f.pr:Nat))∧(flatFn l)[i*4+2]? = some f.vv∧(flatFn l)[i*4+3]? = some (.int .i64 (f.nd:Nat))
 | [],i,f,h=>by simp at h
 | g::r,0,f,h=>by
   simp at h
   subst h
   exact⟨rfl,rfl,rfl,rfl⟩
 | g::r,i+1,f,h=>by
   obtain⟨h1,h2,h3,h4⟩:=flatFn_at (l:=r) (i:=i) (f:=f) (by simpa using h)
   have e:flatFn (g::r)=fnC g++flatFn r:=rfl
   have key:∀ j,(flatFn (g::r))[(i+1)*4+j]? = (flatFn r)[i*4+j]? := fun j=>by
    rw[e,List.getElem?_append_right (by simp[fnC];omega)]
    congr 1
    simp[fnC]
    omega
   exact⟨by have:=key 0;simp only[Nat.add_zero] at this;rw[this];exact h1,by rw[key 1];exact h2,by rw[key 2];exact h3,by rw[key 3];exact h4⟩
theorem DM.fsAt {X:World} {base:Nat} {d:Ds} {sv fv mv:Value} {SS:List SrM} {FF:List FnM} (h:DM X base d sv fv mv SS FF) {L:List Nd} (hp:∀ f∈d.fns,f.params=(kN L f.node).length-1∧kdN L f.node=3) : FsAt L X.heap.size X (sliceA fv) (FF.map FnM.c):=by
 intro i x hx
 rw[List.getElem?_map] at hx
 cases hf:FF[i]? with
 | none=>rw[hf] at hx;simp at hx
 | some f =>
   rw[hf] at hx
   simp at hx
   subst hx
   have hlt:=(List.getElem?_eq_some_iff.1 hf).1
   obtain⟨g,c,e,_,_,hb,hc⟩:=own_cell h.fo (by omega)
   have hlt2:=(h.fo.lt g (by rw[e];rfl)).2
   obtain⟨q0,q1,q2,q3⟩:=flatFn_at hf
   have hmem:f.d∈d.fns:=by rw[← h.ef];exact List.mem_map.2 ⟨f,List.mem_of_getElem? hf,rfl⟩
   have hpr:f.pr=(kN L f.nd).length-1:=(hp _ hmem).1
   obtain⟨va,vc,hvv,_⟩:=own_slice (h.ff f (List.mem_of_getElem? hf))
   have hm4:i*4+4≤FF.length*4:=by omega
   refine⟨g,0,by rw[e];rfl,hlt2,⟨?_,?_,?_,?_⟩⟩
   ·rw[Nat.zero_add];exact hc _ _ (by omega) q0
   ·rw[Nat.zero_add]
    show X.cell? ⟨g,i*4+1,none⟩=some (.int .i64 (((kN L f.nd).length-1:Nat) : Int))
    rw[← hpr];exact hc _ _ (by omega) q1
   ·rw[Nat.zero_add]
    have:Value.slice (FnM.c f).va (FnM.c f).vn (FnM.c f).vc=f.vv:=by rw[hvv];simp[FnM.c,hvv,sliceA,sliceC]
    rw[this];exact hc _ _ (by omega) q2
   ·rw[Nat.zero_add];exact hc _ _ (by omega) q3
theorem funs_same {L:List Nd} {E:Env} : ∀ {FF:List FnM},(∀ f∈FF.map FnM.d,f.params=(kN L f.node).length-1∧kdN L f.node=3)→funsP L E (FF.map FnM.c)=funsE L E (FF.map FnM.d)
 | [],_=>rfl
 | f::r,h=>by
   have h1:=(h (FnM.d f) (by simp)).1
   have ih:=funs_same (L:=L) (E:=E) (FF:=r) (fun g hg=>h g (by simp only[List.map_cons,List.mem_cons];exact .inr hg))
   rw[List.map_cons,List.map_cons,funsP,funsE,ih]
   have:fnE L E (FnM.c f).vn (FnM.c f).nd=funE L E (FnM.d f):=by
    unfold fnE funE
    rw[h1]
    rfl
   rw[this]
   rfl
theorem judge_same {L:List Nd} {d:Ds} {SS:List SrM} {FF:List FnM} (es:SS.map SrM.d=d.sorts) (ef:FF.map FnM.d=d.fns) (hp:∀ f∈d.fns,f.params=(kN L f.node).length-1∧kdN L f.node=3) : judgeP L SS.length (FF.map FnM.c)=judgeE L d:=by
 unfold judgeP judgeE decP mainP
 have e1:(FF.map FnM.c).map FnC.nd=d.fns.map FnD.node:=by rw[← ef,List.map_map,List.map_map];rfl
 have e2:SS.length=d.sorts.length:=by rw[← es,List.length_map]
 have e3:(FF.map FnM.c).length=d.fns.length:=by rw[← ef,List.length_map,List.length_map]
 have e4:∀ E,funsP L E (FF.map FnM.c)=funsE L E d.fns:=fun E=>by rw[← ef];exact funs_same (by rw[ef];exact hp)
 rw[e1,e2,e3]
 split
 ·rfl
 ·cases recsE L (kN L (L.length-1)) NM.nil NM.nil with
  | error e=>rfl
  | ok m =>
    obtain⟨rc,fl⟩:=m
    simp only
    cases decsE L (d.fns.map FnD.node) NM.nil with
    | error e=>rfl
    | ok fn =>
      simp only
      cases fn mainB with
      | none=>rfl
      | some k=>simp only;rw[e4]
theorem place_any {B:Nat} {L:List Nd} {w:World} {a:Option Addr} {len:Nat} (cap:Nat) (hlen:L.length=len) (hL:NAt B w a L) (hlm:len≤2600000000000) (n e:Nat) (hn:n≤2600000000000) :
 Calls Tryz.prog 37 #[.slice a len cap,.int .i64 n,.int .i64 e] w fun ex w'=>ex = .returned (.int .i64 (if e=2∨e=51∨L.length≤n then 0 else max (plN L n) 0))∧w' = w:=by
 have hlI:(len:Int)≤2600000000000:=by omega
 have hnI:(n:Int)≤2600000000000:=by omega
 by_cases h:e=2∨e=51∨L.length≤n
 ·rw[if_pos h]
  by_cases h2:e=2
  ·have j2:((e:Int) == 2)=true:=by simp;omega
   go_enter Tryz.func37,Tryz.ntmps37
   go_wp2
   go_ret
   exact⟨rfl,rfl⟩
  ·have j2:((e:Int) == 2)=false:=by simp;omega
   by_cases h3:e=51
   ·have j3:((e:Int) == 51)=true:=by simp;omega
    go_enter Tryz.func37,Tryz.ntmps37
    go_wp2
    go_ret
    exact⟨rfl,rfl⟩
   ·have j3:((e:Int) == 51)=false:=by simp;omega
    have j4:(len:Int)≤n:=by omega
    go_enter Tryz.func37,Tryz.ntmps37
    go_wp2
    go_ret
    exact⟨rfl,rfl⟩
 ·rw[if_neg h]
  have j2:((e:Int) == 2)=false:=by simp;omega
  have j3:((e:Int) == 51)=false:=by simp;omega
  have j4:¬ (len:Int)≤n:=by omega
  have hx:L[n]? = some (L[n]'(by omega)):=List.getElem?_eq_getElem _
  generalize L[n]'(by omega)=x at hx
  obtain⟨b,o,rfl,hb,hc⟩:=hL n x hx
  have c3:=hc.c3
  have e1:plN L n=x.pl:=by unfold plN;rw[hx]
  rw[e1]
  generalize x.pl=pl at *
  clear hc hL e1 hx h
  go_enter Tryz.func37,Tryz.ntmps37
  go_wp2
  go_ret
  exact⟨rfl,rfl⟩
def POut (L:List Nd) (w w' : World) (e:Ending) : Prop:=match progE L with
 | .error (p,c)=>e = .returned (.tuple #[.agg #[.slice none 0 0,.slice none 0 0,.int .i64 0,.slice none 0 0],.int .i64 p,.int .i64 (c:Nat)])
 | .ok d=>∃ sv fv mv SS FF,e = .returned (.tuple #[.agg #[sv,fv,.int .i64 (d.main:Nat),mv],.int .i64 0,.int .i64 0])∧DM w' w.heap.size d sv fv mv SS FF
theorem POut.err {L:List Nd} {w w' : World} {p:Int} {c:Nat} (h:progE L = .error (p,c)) : POut L w w' (.returned (.tuple #[.agg #[.slice none 0 0,.slice none 0 0,.int .i64 0,.slice none 0 0],.int .i64 p,.int .i64 (c:Nat)])):=by unfold POut;rw[h]
theorem POut.ok {L:List Nd} {w w' : World} {d:Ds} {e:Ending} (h:progE L = .ok d) (k:∃ sv fv mv SS FF,e = .returned (.tuple #[.agg #[sv,fv,.int .i64 (d.main:Nat),mv],.int .i64 0,.int .i64 0])∧DM w' w.heap.size d sv fv mv SS FF) : POut L w w' e:=by unfold POut;rw[h];exact k
theorem check_le {L:List Nd} : (checkL L).1≤L.length:=by
 unfold checkL
 split
 ·simp
 ·split
  ·rename_i e he
   have:∀ n e,nodesL L n = .error e→e.1<n:=by
    intro n
    induction n with
    | zero=>intro e h;simp[nodesL] at h
    | succ n ih =>
      intro e h
      unfold nodesL at h
      split at h
      ·rename_i e0 h0
       cases h
       have:=ih _ h0
       omega
      ·split at h
       ·cases h
       ·split at h
        ·cases h;simp
        ·cases h
   have:=this _ _ he
   omega
  ·split
   ·simp
   ·split
    ·simp
    ·split <;> simp
set_option maxHeartbeats 4000000 in
theorem prog8_any {L:List Nd} {w:World} {a:Option Addr} {len cap:Nat} (hlen:L.length=len) (hL:NAt w.heap.size w a L) (hm:len≤2600000000000) (TT:Tabs w) :
 Calls Tryz.prog 19 #[.slice a len cap] w fun e w'=>POut L w w' e∧Fr [] w w' := by
 have HLN:=hidC hlen
 have F0:Fr [] w (w.alloc (.cells #[.slice none 0 0,.slice none 0 0,.int .i64 0,.slice none 0 0] 28)):=(Fr.refl _ _).alloc _
 have r0:=heap_alloc_new w (.cells #[.slice none 0 0,.slice none 0 0,.int .i64 0,.slice none 0 0] 28)
 have C:=check_any w.heap.size L _ a len cap hlen (hL.fr F0 (by simp)) hm F0.size (TT.fr F0 (by simp))
 have hle:=check_le (L:=L)
 unfold cOut at C
 have HL:=hidC hL
 have HTT:=hidC TT
 have HP:Hid (progE L=if (checkL L).2≠0 then .error (if (checkL L).2=2∨(checkL L).2=51∨L.length≤(checkL L).1 then 0 else max (plN L (checkL L).1) 0,(checkL L).2) else match judgeE L (descL L) with | .error e=>.error e | .ok _=>.ok (descL L)):=rfl
 have HCK:Hid (∀ p,checkL L=(p,0)→Ahead L∧0<L.length∧L.length≤50000∧Shp L∧(∀ n,(kN L n).length≤50000)):=fun p h=>by
  obtain⟨hA,hp,h5,_,_⟩:=tree_once h
  obtain⟨T,hn,_⟩:=check_zero h
  refine⟨hA,hp,h5,shp_of hn,fun n=>?_⟩
  cases hx:L[n]? with
  | none=>unfold kN;rw[hx];simp
  | some x =>
    rw[kN_some hx,List.length_map]
    have:=kids_few hn hx
    have:=(List.getElem?_eq_some_iff.1 hx).1
    omega
 generalize hck:checkL L=ck at *
 obtain⟨p,er⟩:=ck
 simp only at *
 have HCP:=hidC hck
 clear hL TT hck hlen
 go_enter Tryz.func19,Tryz.ntmps19
 go_wp2_with fail
 refine C.mono ?_
 rintro e w1 ⟨rfl,f1⟩
 have r1:=(f1.block _ (Array.getElem?_eq_some_iff.1 r0).1 (by simp)).trans r0
 have F1:=F0.trans f1
 clear C f1 r0 F0
 by_cases h0:er=0
 ·subst h0
  rw[if_neg (by simp)] at HP
  obtain⟨hA,hp0,h5,hS,hkf⟩:=HCK.out p rfl
  have C38:=described_any L w1 a len cap HLN.out ((HL.out.fr F1 (by simp)).mono F1.size) (HTT.out.fr F1 (by simp)) HCP.out hS hkf
  have hfns:∀ f∈(descL L).fns,f.params=(kN L f.node).length-1∧kdN L f.node=3:=foldD_fns (treeW L)
  have hbd:DB L (descL L) 50000:=by
   have h1:=foldD_bound hkf (treeW L)
   have h2:(treeW L).length≤50000:=by unfold treeW;rw[HCP.out];have:=(tree_once HCP.out).2.2.2.2;simp only[if_true];omega
   have e:descL L=foldD L (treeW L):=rfl
   rw[e]
   exact⟨by have:=h1.s;omega,by have:=h1.f;omega,by have:=h1.m;omega,fun f hf=>by have:=h1.v f hf;omega,by have:=h1.mn;omega⟩
  have HJO:=hidC (judgeE_ok L (descL L))
  generalize descL L=DL at *
  go_wp2_with fail
  refine C38.mono ?_
  rintro e w2 ⟨sv,fv,mv,SS,FF,rfl,hDM,f2⟩
  have F2:=F1.trans f2
  have r2:=(f2.block _ (Array.getElem?_eq_some_iff.1 r1).1 (by simp)).trans r1
  obtain⟨sa,sc,rfl,_⟩:=own_slice hDM.so
  obtain⟨fa,fc,rfl,_⟩:=own_slice hDM.fo
  obtain⟨ma,mc,rfl,_⟩:=own_slice hDM.mo
  have F3:Fr [] w2 (w2.alloc (.cells #[.slice sa SS.length sc,.slice fa FF.length fc,.int .i64 (DL.main:Nat),.slice ma DL.merges.length mc] 28)):=(Fr.refl _ _).alloc _
  have b3:=heap_alloc_new w2 (.cells #[.slice sa SS.length sc,.slice fa FF.length fc,.int .i64 (DL.main:Nat),.slice ma DL.merges.length mc] 28)
  have r3:=keep_alloc (u:=.cells #[.slice sa SS.length sc,.slice fa FF.length fc,.int .i64 (DL.main:Nat),.slice ma DL.merges.length mc] 28) r2
  have M3:=hDM.fr F3 (by simp)
  have hJS:=judge_same (L:=L) M3.es M3.ef hfns
  have hss:SS.length≤50000:=by have h1:=hbd.s;rw[← M3.es,List.length_map] at h1;exact h1
  have hff:FF.length≤50000:=by have h1:=hbd.f;rw[← M3.ef,List.length_map] at h1;exact h1
  have C39:=judged_any (cap:=cap) hA hS.shOk ((HL.out.fr (F2.trans F3) (by simp)).mono (F2.trans F3).size) HLN.out (by have:=HLN.out;omega) (fun n x hx=>by have:=hkf n;rw[kN_some hx,List.length_map] at this;exact this) (by have:=HLN.out;omega) (F:=FF.map FnM.c) (sa:=sa) (sc:=sc) hss (fa:=fa) (fn:=FF.length) (fc:=fc) (by simp) hff (M3.fsAt hfns) (fun x hx=>by
   obtain⟨f,hf,rfl⟩:=List.mem_map.1 hx
   have hmem:f.d∈DL.fns:=by rw[← M3.ef];exact List.mem_map.2 ⟨f,hf,rfl⟩
   have h1:=hS.fnPos (hfns _ hmem).2
   have h2:=hbd.v _ hmem
   refine⟨h1.1,h1.2,?_⟩
   show f.vs.length≤1000000
   simp[FnM.d] at h2
   omega) (DL.main:Nat) (.slice ma DL.merges.length mc) rfl
  rw[hJS] at C39
  have F4:=F2.trans F3
  have HM3:=hidC M3
  have HF2s:Hid (w.heap.size≤w1.heap.size):=F1.size
  clear hDM f2 F1 F2 F3 r1 r2 hJS hfns hbd hss hff hS hkf hA M3 C38
  have g0:=at_cells b3 0 rfl
  have g1:=at_cells b3 1 rfl
  have g2:=at_cells b3 2 rfl
  have g3:=at_cells b3 3 rfl
  go_wp2_with fail
  refine C39.mono ?_
  rintro e w4 ⟨rfl,f4⟩
  have r4:=(f4.block _ (Array.getElem?_eq_some_iff.1 r3).1 (by simp)).trans r3
  have b4:=(f4.block _ (Array.getElem?_eq_some_iff.1 b3).1 (by simp)).trans b3
  have F5:=F4.trans f4
  have M4:=hidC (HM3.out.fr f4 (by simp))
  have c0:=at_cells r4 0 rfl
  have c1:=at_cells r4 1 rfl
  have c2:=at_cells r4 2 rfl
  have c3:=at_cells r4 3 rfl
  have z1:∀ i,w4.frozen? ⟨w.heap.size,i,none⟩=false:=fun i=>by simp[World.frozen?,r4]
  have b40:=at_cells b4 0 rfl
  have b41:=at_cells b4 1 rfl
  have b42:=at_cells b4 2 rfl
  have b43:=at_cells b4 3 rfl
  clear C39 f4 F4 HM3 g0 g1 g2 g3 r3 b3 b4
  have HFIN:Hid (∀ x0 x1 x2 x3,Fr [] w ((((w4.setCell ⟨w.heap.size,0,none⟩ x0).setCell ⟨w.heap.size,1,none⟩ x1).setCell ⟨w.heap.size,2,none⟩ x2).setCell ⟨w.heap.size,3,none⟩ x3)∧Fr [w.heap.size] w4 ((((w4.setCell ⟨w.heap.size,0,none⟩ x0).setCell ⟨w.heap.size,1,none⟩ x1).setCell ⟨w.heap.size,2,none⟩ x2).setCell ⟨w.heap.size,3,none⟩ x3)∧((((w4.setCell ⟨w.heap.size,0,none⟩ x0).setCell ⟨w.heap.size,1,none⟩ x1).setCell ⟨w.heap.size,2,none⟩ x2).setCell ⟨w.heap.size,3,none⟩ x3).heap[w.heap.size]? = some (.cells #[x0,x1,x2,x3] 28 (0,0))):=fun x0 x1 x2 x3=>by
   have f9:Fr [w.heap.size] w4 ((((w4.setCell ⟨w.heap.size,0,none⟩ x0).setCell ⟨w.heap.size,1,none⟩ x1).setCell ⟨w.heap.size,2,none⟩ x2).setCell ⟨w.heap.size,3,none⟩ x3):=((((Fr.refl _ _).setCell (.inl (by simp)) _).setCell (.inl (by simp)) _).setCell (.inl (by simp)) _).setCell (.inl (by simp)) _
   exact⟨F5.over f9 (by simp),f9,set4_3 (set4_2 (set4_1 (set4_0 r4)))⟩
  have HMB:Hid (∀ W,Fr [w.heap.size] w4 W→DM W w.heap.size DL (.slice sa SS.length sc) (.slice fa FF.length fc) (.slice ma DL.merges.length mc) SS FF):=fun W f=>by
   have y8:=M4.out.fr f (fun k hk=>by simp at hk;subst hk;exact M4.out.off r4 (by intro c t z e;cases e;decide))
   exact⟨own_base HF2s.out y8.so,own_base HF2s.out y8.fo,own_base HF2s.out y8.mo,fun s hs=>own_base HF2s.out (y8.ss s hs),fun g hg=>own_base HF2s.out (y8.ff g hg),y8.es,y8.ef,y8.ap⟩
  have HR4:=hidC r4
  cases hj:judgeE L DL with
  | error pe =>
    obtain⟨pp,ee⟩:=pe
    have hee:=HJO.out pp ee hj
    have h0' : ((ee:Int) != 0)=true:=by simp;omega
    rw[hj] at HP
    simp only[jEnd]
    clear hj
    go_wp2
    obtain⟨t1,t2,t3⟩:=HFIN.out (.slice none 0 0) (.slice none 0 0) (.int .i64 0) (.slice none 0 0)
    generalize (((w4.setCell ⟨w.heap.size,0,none⟩ (.slice none 0 0)).setCell ⟨w.heap.size,1,none⟩ (.slice none 0 0)).setCell ⟨w.heap.size,2,none⟩ (.int .i64 0)).setCell ⟨w.heap.size,3,none⟩ (.slice none 0 0)=W9 at *
    have k0:=at_cells t3 0 rfl
    have k1:=at_cells t3 1 rfl
    have k2:=at_cells t3 2 rfl
    have k3:=at_cells t3 3 rfl
    refine bodyPost_ret (v:=.tuple #[.agg #[.slice none 0 0,.slice none 0 0,.int .i64 0,.slice none 0 0],.int .i64 pp,.int .i64 ee]) (by simp[results,Tryz.results19,go_sem,k0,k1,k2,k3]) rfl ⟨POut.err HP.out,t1⟩
  | ok u =>
    rw[hj] at HP
    simp only[jEnd]
    clear hj
    go_wp2
    obtain⟨t1,t2,t3⟩:=HFIN.out (.slice sa SS.length sc) (.slice fa FF.length fc) (.int .i64 (DL.main:Nat)) (.slice ma DL.merges.length mc)
    generalize (((w4.setCell ⟨w.heap.size,0,none⟩ (.slice sa SS.length sc)).setCell ⟨w.heap.size,1,none⟩ (.slice fa FF.length fc)).setCell ⟨w.heap.size,2,none⟩ (.int .i64 (DL.main:Nat))).setCell ⟨w.heap.size,3,none⟩ (.slice ma DL.merges.length mc)=W9 at *
    have k0:=at_cells t3 0 rfl
    have k1:=at_cells t3 1 rfl
    have k2:=at_cells t3 2 rfl
    have k3:=at_cells t3 3 rfl
    refine bodyPost_ret (v:=.tuple #[.agg #[.slice sa SS.length sc,.slice fa FF.length fc,.int .i64 (DL.main:Nat),.slice ma DL.merges.length mc],.int .i64 0,.int .i64 0]) (by simp[results,Tryz.results19,go_sem,k0,k1,k2,k3]) rfl ⟨POut.ok HP.out ⟨_,_,_,SS,FF,rfl,HMB.out _ t2⟩,t1⟩
 ·have h0' : ((er:Int) != 0)=true:=by simp;omega
  rw[if_pos h0] at HP
  have C37:=place_any cap HLN.out (HL.out.fr F1 (by simp)) hm p er (by have:=HLN.out;omega)
  generalize (if er=2∨er=51∨L.length≤p then (0:Int) else max (plN L p) 0)=pl at *
  have z1:∀ i,w1.frozen? ⟨w.heap.size,i,none⟩=false:=fun i=>by simp[World.frozen?,r1]
  have c0:=at_cells r1 0 rfl
  have c1:=at_cells r1 1 rfl
  have c2:=at_cells r1 2 rfl
  have c3:=at_cells r1 3 rfl
  have HFIN:Hid (∀ x0 x1 x2 x3,Fr [] w ((((w1.setCell ⟨w.heap.size,0,none⟩ x0).setCell ⟨w.heap.size,1,none⟩ x1).setCell ⟨w.heap.size,2,none⟩ x2).setCell ⟨w.heap.size,3,none⟩ x3)∧True∧((((w1.setCell ⟨w.heap.size,0,none⟩ x0).setCell ⟨w.heap.size,1,none⟩ x1).setCell ⟨w.heap.size,2,none⟩ x2).setCell ⟨w.heap.size,3,none⟩ x3).heap[w.heap.size]? = some (.cells #[x0,x1,x2,x3] 28 (0,0))):=fun x0 x1 x2 x3=>by
   have f9:Fr [w.heap.size] w1 ((((w1.setCell ⟨w.heap.size,0,none⟩ x0).setCell ⟨w.heap.size,1,none⟩ x1).setCell ⟨w.heap.size,2,none⟩ x2).setCell ⟨w.heap.size,3,none⟩ x3):=((((Fr.refl _ _).setCell (.inl (by simp)) _).setCell (.inl (by simp)) _).setCell (.inl (by simp)) _).setCell (.inl (by simp)) _
   exact⟨F1.over f9 (by simp),trivial,set4_3 (set4_2 (set4_1 (set4_0 r1)))⟩
  go_wp2_with (go_at_call 37;with_reducible (refine C37.mono ?_);rintro ex wz ⟨rfl,hwz⟩;have hwz' := hwz.symm;subst hwz')
  obtain⟨t1,t2,t3⟩:=HFIN.out (.slice none 0 0) (.slice none 0 0) (.int .i64 0) (.slice none 0 0)
  generalize (((w1.setCell ⟨w.heap.size,0,none⟩ (.slice none 0 0)).setCell ⟨w.heap.size,1,none⟩ (.slice none 0 0)).setCell ⟨w.heap.size,2,none⟩ (.int .i64 0)).setCell ⟨w.heap.size,3,none⟩ (.slice none 0 0)=W9 at *
  have k0:=at_cells t3 0 rfl
  have k1:=at_cells t3 1 rfl
  have k2:=at_cells t3 2 rfl
  have k3:=at_cells t3 3 rfl
  refine bodyPost_ret (v:=.tuple #[.agg #[.slice none 0 0,.slice none 0 0,.int .i64 0,.slice none 0 0],.int .i64 pl,.int .i64 er]) (by simp[results,Tryz.results19,go_sem,k0,k1,k2,k3]) rfl ⟨POut.err HP.out,t1⟩
def setAll (T:List Bool) : List Nat→List Bool
 | []=>T
 | k::r=>setAll (T.set k true) r
theorem setAll_len (T:List Bool) : ∀ l,(setAll T l).length=T.length
 | []=>rfl
 | k::r=>by rw[setAll,setAll_len _ r,List.length_set]
termination_by l=>l.length
def markL (L:List Nd) : Nat→List Bool
 | 0=>List.replicate L.length false
 | p+1=>if kdN L p=13 then setAll ((markL L p).set p true) (kN L p) else markL L p
theorem markL_len (L:List Nd) : ∀ p,(markL L p).length=L.length
 | 0=>by simp[markL]
 | p+1=>by
   unfold markL
   split
   ·rw[setAll_len,List.length_set,markL_len L p]
   ·exact markL_len L p
theorem setAll_snoc:∀ (l:List Nat) (T:List Bool) (k:Nat),setAll T (l++[k])=(setAll T l).set k true
 | [],T,k=>rfl
 | j::r,T,k=>by rw[List.cons_append,setAll,setAll,setAll_snoc r]
set_option maxHeartbeats 4000000 in
theorem ofm_any {B:Nat} {L:List Nd} {w:World} {a:Option Addr} {len cap:Nat} (hlen:L.length=len) (hL:NAt B w a L) (hlm:len≤50000) (hA:Ahead L) (hB:B≤w.heap.size) (hkf:∀ n,(kN L n).length≤50000) :
 Calls Tryz.prog 24 #[.slice a len cap] w fun e w'=>e = .returned (.slice (some ⟨w.heap.size,0,none⟩) len len)∧TB w' w.heap.size (markL L len)∧Fr [] w w' := by
 have hlI:(len:Int)≤50000:=by omega
 have hmk:=make_bools w len (by omega)
 have I0:TB (w.alloc (.cells ((List.replicate len false).map Value.bool).toArray 4)) w.heap.size (markL L 0):=by
  have:=heap_alloc_new w (.cells ((List.replicate len false).map Value.bool).toArray 4)
  unfold TB markL
  rw[hlen]
  exact this
 have F0:Fr [] w (w.alloc (.cells ((List.replicate len false).map Value.bool).toArray 4)):=(Fr.refl _ _).alloc _
 have HLN:=hidC hlen
 have HL:=hidC (hL.fr F0 (by simp))
 have HA:=hidC hA
 have HKF:=hidC hkf
 have HB:=hidC hB
 have HF0:=hidC F0
 clear hlen hL hA hkf hB F0
 generalize w.alloc (.cells ((List.replicate len false).map Value.bool).toArray 4)=W at *
 have HI0:=hidC I0
 clear I0
 go_enter Tryz.func24,Tryz.ntmps24
 go_wp2
 clear hmk
 go_loopw [4,5,7,13,27] (fun _ _ _ ix _ wr=>∃ p:Nat,p≤len∧ix = .int .i64 p∧Fr [w.heap.size] W wr∧TB wr w.heap.size (markL L p)) (fun _ _ _ ix _ _=>len-(intOf ix).toNat)
 case atStart=>exact⟨0,Nat.zero_le _,rfl,Fr.refl _ _,HI0.out⟩
 case round =>
  clear HI0
  obtain⟨p,hp,rfl,fw,hT⟩:=hrel
  by_cases hlt:p<len
  ·have hpI:(p:Int)<len:=by omega
   have hpl:p<L.length:=by rw[HLN.out];exact hlt
   have hx:L[p]? = some L[p]:=List.getElem?_eq_getElem hpl
   generalize L[p]=x at hx
   have HML:Hid ((markL L p).length=len):=by unfold Hid;rw[markL_len];exact HLN.out
   have eK:kdN L p=x.kind:=kdN_of hx
   have eN:kN L p=x.ks.map Int.toNat:=kN_some hx
   have HMS:Hid (markL L (p+1)=if x.kind=13 then setAll ((markL L p).set p true) (x.ks.map Int.toNat) else markL L p):=by unfold Hid;rw[markL,eK,eN]
   have hkm:x.ks.length≤50000:=by have:=HKF.out p;rw[eN,List.length_map] at this;exact this
   have HKS:Hid (∀ k∈x.ks,0≤k∧k<len):=fun k hk=>by obtain⟨q0,q1⟩:=HA.out p x hx k hk;exact⟨q0,by omega⟩
   obtain⟨b,o,rfl,hb,hc⟩:=(HL.out.fr fw (by have:=HB.out;simp;omega)) p x hx
   have F5:Fr [] wr (wr.alloc (.cells #[.int .i64 x.kind,.string x.text,.slice x.a x.ks.length x.c,.int .i64 x.pl] 55)):=(Fr.refl _ _).alloc _
   have bx:=heap_alloc_new wr (.cells #[.int .i64 x.kind,.string x.text,.slice x.a x.ks.length x.c,.int .i64 x.pl] 55)
   have HT5:=hidC (hT.fr F5 (by simp))
   have HFW:=hidC (fw.trans (F5.sub (by simp)))
   have ng:b≠wr.heap.size:=by have:=World.block_lt_of_cell? wr _ hc.c0;simp only at this;omega
   have HK5:=hidC (hc.k.fr F5 (by simp))
   have HG:Hid (w.heap.size≠wr.heap.size):=by have:=hT.lt;unfold Hid;omega
   obtain⟨c0,c1,c2,c3,_,_,_,_,_⟩:=hc
   obtain⟨wA,hwA⟩ : ∃ x:World,x=wr:=⟨_,rfl⟩
   subst hwA
   have kI:(x.ks.length:Int)≤50000:=by omega
   obtain⟨xk,xt,xa,xc,xks,xpl⟩:=x
   simp only at *
   clear hx hpl hT eK eN fw F5
   by_cases h13:xk=13
   ·subst h13
    rw[if_pos rfl] at HMS
    have e0:=at_cells bx 0 rfl
    have e2:=at_cells bx 2 rfl
    have t0:=HT5.out.cell (i:=p) (by rw[HML.out];exact hlt)
    have tz:=HT5.out.fz p
    have HT6:=hidC (HT5.out.set p true)
    have hG:=HG.out
    have HF6:=hidC (HFW.out.setCell (p:=⟨w.heap.size,p,none⟩) (.inl (by simp)) (.bool true))
    have HK6:=hidC (HK5.out.fr ((Fr.refl [w.heap.size] _).setCell (p:=⟨w.heap.size,p,none⟩) (.inl (by simp)) (.bool true)) (by have:=HB.out;simp;omega))
    go_wp2
    generalize (wA.alloc (.cells #[.int .i64 13,.string xt,.slice xa xks.length xc,.int .i64 xpl] 55)).setCell ⟨w.heap.size,p,none⟩ (.bool true)=W6 at *
    clear e0 e2 t0 tz bx c0 c1 c2 c3 ng HT5 HK5 HFW
    go_loopw [7,27] (fun _ ix wr=>∃ q:Nat,q≤xks.length∧ix = .int .i64 q∧Fr [w.heap.size] W wr∧Fr [w.heap.size] W6 wr∧TB wr w.heap.size (setAll ((markL L p).set p true) ((xks.take q).map Int.toNat))) (fun _ ix _=>xks.length-(intOf ix).toNat)
    case atStart=>exact⟨0,Nat.zero_le _,rfl,HF6.out,Fr.refl _ _,HT6.out⟩
    case round =>
     obtain⟨q,hq,rfl,fq,fq6,hTq⟩:=hrel
     by_cases hlt2:q<xks.length
     ·have hqI:(q:Int)<xks.length:=by omega
      have hy:xks[q]? = some xks[q]:=List.getElem?_eq_getElem hlt2
      obtain⟨z0,z1⟩:=HKS.out xks[q] (List.getElem_mem _)
      obtain⟨b2,o2,e2,hb2,hc2⟩:=(HK6.out.fr fq6 (by have:=HB.out;simp;omega)) q _ hy
      have HSN:Hid (setAll ((markL L p).set p true) ((xks.take (q+1)).map Int.toNat)=(setAll ((markL L p).set p true) ((xks.take q).map Int.toNat)).set (xks[q]).toNat true):=by
       unfold Hid
       rw[List.take_add_one,hy]
       simp only[Option.toList_some,List.map_append,List.map_cons,List.map_nil]
       rw[setAll_snoc]
      generalize xks[q]=z at *
      obtain⟨y,rfl⟩:=Int.eq_ofNat_of_zero_le z0
      rw[Int.toNat_natCast] at HSN
      have hyl:y<(setAll ((markL L p).set p true) ((xks.take q).map Int.toNat)).length:=by rw[setAll_len,List.length_set,HML.out];omega
      have t0:=hTq.cell hyl
      have tz:=hTq.fz y
      have hT7:=hTq.set y true
      rw[← HSN.out] at hT7
      have HT7:=hidC hT7
      have HF7:=hidC (fq.setCell (p:=⟨w.heap.size,y,none⟩) (.inl (by simp)) (.bool true))
      have HF8:=hidC (fq6.setCell (p:=⟨w.heap.size,y,none⟩) (.inl (by simp)) (.bool true))
      subst e2
      clear hy hyl hT7 hTq fq fq6 HSN
      go_wp2
      go_roundw
      case rel=>exact⟨q+1,hlt2,by go_num,HF7.out,HF8.out,HT7.out⟩
      case measure=>simp[intOf];omega
     ·have hqI:¬ (q:Int)<xks.length:=by omega
      rw[List.take_of_length_le (by omega),← HMS.out] at hTq
      have HTQ:=hidC hTq
      clear hTq
      go_wp2
      go_roundw
      case rel=>exact⟨p+1,hlt,by go_num,fq,HTQ.out⟩
      case measure=>simp[intOf];omega
   ·rw[if_neg h13] at HMS
    have j13:(xk != 13)=true:=by simpa using h13
    have HT9:=HT5.out
    rw[← HMS.out] at HT9
    have HT10:=hidC HT9
    clear HT9 HT5 HMS
    go_wp2
    go_roundw
    case rel=>exact⟨p+1,hlt,by go_num,HFW.out,HT10.out⟩
    case measure=>simp[intOf];omega
  ·have hpI:¬ (p:Int)<len:=by omega
   have hpe:p=len:=by omega
   subst hpe
   go_wp2
   go_ret
   exact⟨rfl,hT,HF0.out.over fw (by simp)⟩
def renL (D:List Int) (ks:List Int) : List Int:=(ks.filter (fun k=>D.getD k.toNat 0 != -1)).map (fun k=>D.getD k.toNat 0)
theorem renL_snoc (D ks:List Int) (k:Int) : renL D (ks++[k])=if D.getD k.toNat 0 = -1 then renL D ks else renL D ks++[D.getD k.toNat 0]:=by
 unfold renL
 rw[List.filter_append,List.map_append]
 split
 ·rename_i h
  have:(D.getD k.toNat 0 != -1)=false:=by rw[h];rfl
  simp only[List.filter_cons,this,List.filter_nil]
  simp
 ·rename_i h
  have:(D.getD k.toNat 0 != -1)=true:=by simpa using h
  simp only[List.filter_cons,this,List.filter_nil]
  simp
theorem renL_len (D ks:List Int) : (renL D ks).length≤ks.length:=by
 unfold renL
 rw[List.length_map]
 exact List.length_filter_le _ _
def inZ (l:List Int) : List Value:=l.map (Value.int .i64)
set_option maxHeartbeats 4000000 in
theorem ren_any {B:Nat} {w:World} {ka:Option Addr} {kn kc g len gc:Nat} {ks D:List Int} (hk:KAt B w ka ks) (hkn:ks.length=kn) (hkm:kn≤50000) (hD:IB w g D) (hDl:D.length=len) (hlm:len≤50000) (hks:∀ k∈ks,0≤k∧k<len) :
 Calls Tryz.prog 25 #[.slice ka kn kc,.slice (some ⟨g,0,none⟩) len gc] w fun e w'=>∃ v,e = .returned v∧w'.ownsRow w.heap.size 3 1 v (renL D ks).length (inZ (renL D ks))∧Fr [] w w' := by
 obtain⟨i3,hi3,hz3,hs3,hb3⟩:=info_parts info3c
 have HKN:=hidC hkn
 have HK:=hidC hk
 have HKS:=hidC hks
 have HD:=hidC hD
 have HDL:=hidC hDl
 have hlI:(len:Int)≤50000:=by omega
 have hkI:(kn:Int)≤50000:=by omega
 clear hkn hk hks hD hDl
 go_enter Tryz.func25,Tryz.ntmps25
 go_wp2
 go_loopw [5,7,10] (fun v _ ix wr=>∃ p:Nat,p≤kn∧ix = .int .i64 p∧wr.ownsRow w.heap.size 3 1 v (renL D (ks.take p)).length (inZ (renL D (ks.take p)))∧Fr [] w wr) (fun _ _ ix _=>kn-(intOf ix).toNat)
 case atStart=>exact⟨0,Nat.zero_le _,rfl,World.ownsRow_nil _ _ _ _,Fr.refl _ _⟩
 case round =>
  obtain⟨p,hp,rfl,ho,fw⟩:=hrel
  by_cases hlt:p<kn
  ·have hpI:(p:Int)<kn:=by omega
   have hpk:p<ks.length:=by rw[HKN.out];exact hlt
   have hx:ks[p]? = some ks[p]:=List.getElem?_eq_getElem hpk
   obtain⟨h0,hz'⟩:=HKS.out ks[p] (List.getElem_mem _)
   have HRL:Hid ((renL D (ks.take p)).length≤50000):=by have:=renL_len D (ks.take p);rw[List.length_take] at this;unfold Hid;omega
   have HT:Hid (renL D (ks.take (p+1))=if D.getD (ks[p]).toNat 0 = -1 then renL D (ks.take p) else renL D (ks.take p)++[D.getD (ks[p]).toNat 0]):=by
    unfold Hid
    rw[← renL_snoc,List.take_add_one,hx]
    rfl
   obtain⟨b,o,e,hb,hc⟩:=(HK.out.fr fw (by simp)) p _ hx
   subst e
   generalize ks[p]=z at *
   obtain⟨q,rfl⟩:=Int.eq_ofNat_of_zero_le h0
   rw[Int.toNat_natCast] at HT
   have hql:q<D.length:=by rw[HDL.out];omega
   have hv:D[q]? = some (D.getD q 0):=by simp[List.getD,List.getElem?_eq_getElem hql]
   have dq:=(HD.out.fr fw (by simp)).cell hv
   generalize D.getD q 0=dv at *
   obtain⟨av,cv,rfl,_⟩:=own_slice ho
   have hsz:=fw.size
   have HO:=hidC ho
   have HFW:=hidC fw
   clear hx h0 ho fw hv
   by_cases hg:dv = -1
   ·subst hg
    rw[if_pos rfl] at HT
    have HO2:=HO.out
    rw[← HT.out] at HO2
    have HO3:=hidC HO2
    have HLE:Hid ((renL D (ks.take p)).length=(renL D (ks.take (p+1))).length):=by unfold Hid;rw[HT.out]
    clear HO2 HT HO
    go_wp2
    go_roundw
    case rel=>exact⟨p+1,hlt,by go_num,by rw[HLE.out];exact HO3.out,HFW.out⟩
    case measure=>simp[intOf];omega
   ·rw[if_neg hg] at HT
    have hgb:(dv != -1)=true:=by simpa using hg
    have f1:Fr [] wr (wr.alloc (.cells #[.int .i64 dv] 3)):=(Fr.refl _ _).alloc _
    generalize hrl:(renL D (ks.take p)).length=rl at *
    go_wp2_with (at_builtin;refine wpList_append_own_at _ rfl _ _ 26 rfl w.heap.size 3 i3 (.int .i64 0) 1 8 under26c hi3 hz3 hs3 hb3 rfl (by decide) (.slice av rl cv) rl _ rfl (HO.out.alloc _) ⟨wr.heap.size,0,none⟩ 1 1 [.int .i64 dv] rfl rfl (new_one wr _ _) (by simp[Value.oneCell']) (by have:=HRL.out;unfold maxLen;omega) (by have:=HRL.out;omega) (by simp;omega) ?_)
    intro v1 w1 hown1 hgrow hnil hloc
    have HF1:Hid (Fr [] w w1):=(HFW.out.trans f1).over ((Fr.ofGrown hgrow).sub (fun k hk=>.inl hk)) (fun k hk=>by simp only[Option.mem_toList] at hk;exact (HO.out.lt k hk).1)
    have HO1:Hid (w1.ownsRow w.heap.size 3 1 v1 (renL D (ks.take (p+1))).length (inZ (renL D (ks.take (p+1))))):=by
     unfold Hid
     rw[HT.out,inZ,List.map_append,List.length_append,hrl]
     exact hown1
    obtain⟨a1,c1,hv1,_⟩:=own_slice hown1
    subst hv1
    have HLE:Hid (rl+1=(renL D (ks.take (p+1))).length):=by unfold Hid;rw[HT.out,List.length_append,hrl];rfl
    clear hown1 hgrow hnil hloc f1 HT hrl HO
    go_wp2
    go_roundw
    case rel=>exact⟨p+1,hlt,by go_num,HO1.out,HF1.out⟩
    case measure=>simp[intOf];omega
  ·have hpI:¬ (p:Int)<kn:=by omega
   have hpe:p=kn:=by omega
   subst hpe
   rw[List.take_of_length_le (by rw[HKN.out];exact Nat.le_refl _)] at ho
   obtain⟨av,cv,rfl,_⟩:=own_slice ho
   have HO:=hidC ho
   clear ho
   go_wp2
   go_ret
   exact⟨_,rfl,HO.out,fw⟩
def cellsO (x:Nd) : List Value:=[.int .i64 x.kind,.string x.text,.slice x.a x.ks.length x.c,.int .i64 x.pl]
def flatO (l:List Nd) : List Value:=l.flatMap cellsO
theorem flatO_snoc (l:List Nd) (x:Nd) : flatO (l++[x])=flatO l++cellsO x:=by simp[flatO]
theorem flatO_at:∀ {l:List Nd} {i j:Nat} {x:Nd},l[i]? = some x→j<4→(flatO l)[i*4+j]? = (cellsO x)[j]?
 | [],i,j,x,h,_=>by simp at h
 | y::r,0,j,x,h,hj=>by
   simp at h
   subst h
   have e:flatO (y::r)=cellsO y++flatO r:=rfl
   rw[e,List.getElem?_append_left (by simp[cellsO];omega)]
   simp
 | y::r,i+1,j,x,h,hj=>by
   have ih:=flatO_at (l:=r) (i:=i) (j:=j) (x:=x) (by simpa using h) hj
   have e:flatO (y::r)=cellsO y++flatO r:=rfl
   rw[e,List.getElem?_append_right (by simp[cellsO];omega),← ih]
   congr 1
   simp[cellsO]
   omega
def nb (x:Nd) : Nd:=⟨x.kind,x.text,none,0,x.ks,x.pl⟩
def bareS (L:List Nd) (M:List Bool) (p:Nat) (s:List Int×List Nd) : List Int×List Nd:=match L[p]? with
 | none=>s
 | some x=>if M.getD p false then (s.1.set p (-1),s.2)
   else if x.kind=29 then (s.1.set p (s.1.getD (x.ks.headD 0).toNat 0),s.2)
   else (s.1.set p s.2.length,s.2++[⟨x.kind,x.text,none,0,renL (s.1.set p s.2.length) x.ks,x.pl⟩])
def bareP (L:List Nd) : Nat→List Int×List Nd
 | 0=>(List.replicate L.length 0,[])
 | p+1=>bareS L (markL L L.length) p (bareP L p)
theorem bareS_len (L:List Nd) (M:List Bool) (p:Nat) (s:List Int×List Nd) : (bareS L M p s).1.length=s.1.length∧s.2.length≤(bareS L M p s).2.length∧(bareS L M p s).2.length≤s.2.length+1:=by
 unfold bareS
 split
 ·exact⟨rfl,Nat.le_refl _,by omega⟩
 ·split
  ·exact⟨by simp,Nat.le_refl _,by simp⟩
  ·split
   ·exact⟨by simp,Nat.le_refl _,by simp⟩
   ·exact⟨by simp,by simp,by simp⟩
theorem bareP_len (L:List Nd) : ∀ p,(bareP L p).1.length=L.length∧(bareP L p).2.length≤p
 | 0=>by simp[bareP]
 | p+1=>by
   obtain⟨h1,h2⟩:=bareP_len L p
   obtain⟨h3,_,h4⟩:=bareS_len L (markL L L.length) p (bareP L p)
   exact⟨by rw[bareP,h3,h1],by rw[bareP];omega⟩
structure BM (X:World) (base:Nat) (bv:Value) (O:List Nd) : Prop where
 row:X.ownsRow base 55 4 bv O.length (flatO O)
 kid:∀ x∈O,X.ownsRow base 3 1 (.slice x.a x.ks.length x.c) x.ks.length (inZ x.ks)
 tx:∀ x∈O,x.text.size≤maxLen
theorem BM.fr {X X' : World} {base:Nat} {bv:Value} {O:List Nd} {S:List Nat} (h:BM X base bv O) (f:Fr S X X') (hS:∀ k∈S,k<base) : BM X' base bv O :=
 ⟨own_fr h.row f (fun k hk hm=>by have:=hS k hm;have:=(h.row.lt k hk).1;omega),fun x hx=>own_fr (h.kid x hx) f (fun k hk hm=>by have:=hS k hm;have:=((h.kid x hx).lt k hk).1;omega),h.tx⟩
theorem BM.nil (X:World) (base:Nat) : BM X base (.slice none 0 0) []:=⟨World.ownsRow_nil _ _ _ _,by simp,by simp⟩
theorem info55o:(Tryz.prog.info? 55).map (fun i=>(i.zero,i.size,i.bytes))=some (some (.agg #[.int .i64 0,.string ⟨#[]⟩,.slice none 0 0,.int .i64 0]),4,56):=by kernel_rfl
theorem under23o:Tryz.prog.underlying 23=some (.slice 55):=by kernel_rfl
theorem BM.nat {X:World} {base:Nat} {a:Option Addr} {n c:Nat} {O:List Nd} (h:BM X base (.slice a n c) O) : NAt X.heap.size X a O:=by
 intro i x hx
 have hlt:=(List.getElem?_eq_some_iff.1 hx).1
 obtain⟨g,cc,e,_,_,hb,hc⟩:=own_cell h.row (by omega)
 cases e
 have hg:=(h.row.lt g rfl).2
 have q:∀ j,j<4→∀ u,(cellsO x)[j]? = some u→X.cell? ⟨g,i*4+j,none⟩=some u:=fun j hj u hu=>hc _ _ (by omega) (by rw[flatO_at hx hj];exact hu)
 have hmem:=List.mem_of_getElem? hx
 have hk:=h.kid x hmem
 obtain⟨_,h0 | ⟨kg,kc,cur,hv,hkb,hko,hkl,hkm,_⟩⟩:=id hk
 ·injection h0.1 with e1 e2 e3
  refine⟨g,0,rfl,hg,⟨by simpa using q 0 (by omega) _ rfl,by simpa using q 1 (by omega) _ rfl,by simpa using q 2 (by omega) _ rfl,by simpa using q 3 (by omega) _ rfl,?_,h.tx x hmem,by omega,by omega,fun _=>e3⟩⟩
  intro j k hj
  have:=(List.getElem?_eq_some_iff.1 hj).1
  omega
 ·injection hv with e1 e2 e3
  refine⟨g,0,rfl,hg,⟨by simpa using q 0 (by omega) _ rfl,by simpa using q 1 (by omega) _ rfl,by simpa using q 2 (by omega) _ rfl,by simpa using q 3 (by omega) _ rfl,?_,h.tx x hmem,by omega,by omega,fun h=>by rw[e1] at h;cases h⟩⟩
  intro j k hj
  refine⟨kg,0,e1,(hk.lt kg (by rw[e1];rfl)).2,?_⟩
  have hjl:=(List.getElem?_eq_some_iff.1 hj).1
  have:=hk.cells (g:=kg) (by rw[e1];rfl) j (.int .i64 k) (by simp[inZ,hj])
  rw[Addr.add_lit] at this
  exact this
def BOut (L:List Nd) (w w' : World) (e:Ending) : Prop :=
 if (checkL L).2≠0 then e = .returned (.tuple #[.slice none 0 0,.int .i64 ((checkL L).2:Nat)])
 else ∃ (a:Option Addr) (c:Nat) (O:List Nd),e = .returned (.tuple #[.slice a O.length c,.int .i64 0])∧O.map nb=(bareP L L.length).2∧BM w' w.heap.size (.slice a O.length c) O
set_option maxHeartbeats 8000000 in
theorem bare13_any {L:List Nd} {w:World} {a:Option Addr} {len cap:Nat} (hlen:L.length=len) (hL:NAt w.heap.size w a L) (hm:len≤2600000000000) (TT:Tabs w) :
 Calls Tryz.prog 13 #[.slice a len cap] w fun e w'=>BOut L w w' e∧Fr [] w w' := by
 have C:=check_any w.heap.size L w a len cap hlen hL hm (Nat.le_refl _) TT
 unfold cOut at C
 have HLN:=hidC hlen
 have HL:=hidC hL
 have HCK:Hid (∀ p,checkL L=(p,0)→Ahead L∧0<L.length∧L.length≤50000∧Shp L∧(∀ n,(kN L n).length≤50000)):=fun p h=>by
  obtain⟨hA,hp,h5,_,_⟩:=tree_once h
  obtain⟨T,hn,_⟩:=check_zero h
  refine⟨hA,hp,h5,shp_of hn,fun n=>?_⟩
  cases hx:L[n]? with
  | none=>unfold kN;rw[hx];simp
  | some x =>
    rw[kN_some hx,List.length_map]
    have:=kids_few hn hx
    have:=(List.getElem?_eq_some_iff.1 hx).1
    omega
 have HO:Hid (∀ w' e,BOut L w w' e↔if (checkL L).2≠0 then e = .returned (.tuple #[.slice none 0 0,.int .i64 ((checkL L).2:Nat)]) else ∃ (a:Option Addr) (c:Nat) (O:List Nd),e = .returned (.tuple #[.slice a O.length c,.int .i64 0])∧O.map nb=(bareP L L.length).2∧BM w' w.heap.size (.slice a O.length c) O):=fun w' e=>Iff.rfl
 generalize hck:checkL L=ck at *
 obtain⟨pc,er⟩:=ck
 simp only at *
 clear hL TT hlen hck
 go_enter Tryz.func13,Tryz.ntmps13
 go_wp2_with fail
 refine C.mono ?_
 rintro e w1 ⟨rfl,f1⟩
 clear C
 by_cases h0:er=0
 ·subst h0
  obtain⟨hA,hp0,h5,hS,hkf⟩:=HCK.out pc rfl
  have hlm:len≤50000:=by have:=HLN.out;omega
  have hlI:(len:Int)≤50000:=by omega
  have HL1:=hidC (HL.out.fr f1 (by simp))
  have hmk:=make_ints w1 len (by omega)
  have I2:IB (w1.alloc (.cells ((List.replicate len (0:Int)).map (Value.int .i64)).toArray 3)) w1.heap.size (List.replicate len 0):=heap_alloc_new w1 _
  have f2:Fr [] w1 (w1.alloc (.cells ((List.replicate len (0:Int)).map (Value.int .i64)).toArray 3)):=(Fr.refl _ _).alloc _
  generalize w1.alloc (.cells ((List.replicate len (0:Int)).map (Value.int .i64)).toArray 3)=w2 at *
  have F2:=f1.trans f2
  have C24:=ofm_any (cap:=cap) HLN.out (HL1.out.fr f2 (by simp)) hlm hA F2.size hkf
  have HI2:=hidC I2
  have HA:=hidC hA
  have HSH:=hidC hS
  have HKF:=hidC hkf
  have HG1:Hid (w1.heap.size<w2.heap.size∧w.heap.size≤w1.heap.size):=⟨I2.lt,f1.size⟩
  clear I2 hA hS hkf h5 hp0
  go_wp2_with fail
  refine C24.mono ?_
  rintro e w3 ⟨rfl,hT3,f3⟩
  have HI3:=hidC (HI2.out.fr f3 (by simp))
  have HT3:=hidC hT3
  have F3:=F2.trans f3
  have HL3:=hidC ((HL1.out.fr f2 (by simp)).fr f3 (by simp))
  have HF3:=hidC F3
  have HG2:Hid (w2.heap.size<w3.heap.size):=hT3.lt
  clear C24 hT3 f3 F2 f2 f1 HI2 HL1 hmk HCK F3
  generalize hgn:w1.heap.size=gn at *
  generalize hgm:w2.heap.size=gm at *
  clear hgn hgm
  obtain⟨i55,hi55,hz55,hs55,hb55⟩:=info_parts info55o
  have HMK:Hid ((markL L len).length=len):=by unfold Hid;rw[markL_len];exact HLN.out
  have HST:Hid (∀ p,bareP L (p+1)=bareS L (markL L len) p (bareP L p)):=fun p=>by rw[bareP,HLN.out]
  generalize markL L len=MK at *
  go_wp2
  go_loopw [6,9,10,26] (fun bv _ _ ix wr=>∃ p:Nat,p≤len∧ix = .int .i64 p∧Fr [gn] w3 wr∧∃ D O,IB wr gn D∧TB wr gm MK∧BM wr w3.heap.size bv O∧Hid ((D,O.map nb)=bareP L p)) (fun _ _ _ ix _=>len-(intOf ix).toNat)
  case atStart=>exact⟨0,Nat.zero_le _,rfl,Fr.refl _ _,_,[],HI3.out,HT3.out,BM.nil _ _,by unfold Hid;rw[bareP,HLN.out];rfl⟩
  case round =>
   clear HI3 HT3
   obtain⟨p,hp,rfl,fw,D,O,hD,hT,hO,he⟩:=hrel
   obtain⟨ba,bc,rfl,_⟩:=own_slice hO.row
   have hDl:D.length=len:=by have:=(bareP_len L p).1;rw[← he.out] at this;rw[← HLN.out];exact this
   have hOl:O.length≤p:=by have:=(bareP_len L p).2;rw[← he.out] at this;simpa using this
   have HDL:=hidC hDl
   have HOL:=hidC hOl
   have hOI:(O.length:Int)≤50000:=by omega
   have hg1:=HG1.out
   have hg2:=HG2.out
   by_cases hlt:p<len
   ·have hpI:(p:Int)<len:=by omega
    have hpl:p<L.length:=by rw[HLN.out];exact hlt
    have hx:L[p]? = some L[p]:=List.getElem?_eq_getElem hpl
    generalize L[p]=x at hx
    have HS:Hid (bareP L (p+1)=if MK.getD p false then (D.set p (-1),O.map nb) else if x.kind=29 then (D.set p (D.getD (x.ks.headD 0).toNat 0),O.map nb) else (D.set p O.length,O.map nb++[⟨x.kind,x.text,none,0,renL (D.set p O.length) x.ks,x.pl⟩])):=by
     unfold Hid
     rw[HST.out,← he.out,bareS,hx]
     simp only[List.length_map]
    have hkm:x.ks.length≤50000:=by have:=HKF.out p;rw[kN_some hx,List.length_map] at this;exact this
    have HKS:Hid (∀ k∈x.ks,0≤k∧k<len):=fun k hk=>by obtain⟨q0,q1⟩:=HA.out p x hx k hk;exact⟨q0,by omega⟩
    have H29:Hid (x.kind=29→∃ z,x.ks = [z]):=fun h=>by obtain⟨z,hz,_⟩:=HSH.out.one hx (by omega);exact⟨z,hz⟩
    obtain⟨b,o,rfl,hb,hc⟩:=(HL3.out.fr fw (by simp;omega)) p x hx
    have F5:Fr [] wr (wr.alloc (.cells #[.int .i64 x.kind,.string x.text,.slice x.a x.ks.length x.c,.int .i64 x.pl] 55)):=(Fr.refl _ _).alloc _
    have bx:=heap_alloc_new wr (.cells #[.int .i64 x.kind,.string x.text,.slice x.a x.ks.length x.c,.int .i64 x.pl] 55)
    have HT5:=hidC (hT.fr F5 (by simp))
    have HD5:=hidC (hD.fr F5 (by simp))
    have HO5:=hidC (hO.fr F5 (by simp))
    have HFW:=hidC (fw.trans (F5.sub (by simp)))
    have ng:b≠wr.heap.size:=by have:=World.block_lt_of_cell? wr _ hc.c0;simp only at this;omega
    have HK5:=hidC (hc.k.fr F5 (by simp))
    have HTX:=hidC hc.t
    have HOB:Hid ((∀ k,(Value.slice ba O.length bc).ownBlock=some k→k<wr.heap.size)∧∀ y∈O,∀ k,(Value.slice y.a y.ks.length y.c).ownBlock=some k→k<wr.heap.size):=⟨fun k hk=>(hO.row.lt k hk).2,fun y hy k hk=>((hO.kid y hy).lt k hk).2⟩
    have HNG:Hid (gn≠wr.heap.size∧gm≠wr.heap.size∧w3.heap.size≤wr.heap.size):=⟨by have:=hD.lt;omega,by have:=hT.lt;omega,fw.size⟩
    obtain⟨c0,c1,c2,c3,_,_,_,_,_⟩:=hc
    have kI:(x.ks.length:Int)≤50000:=by omega
    have t0:=HT5.out.cell (i:=p) (by rw[HMK.out];exact hlt)
    have e0:=at_cells bx 0 rfl
    have e2:=at_cells bx 2 rfl
    have hdp:D[p]? = some (D.getD p 0):=by simp[List.getD,List.getElem?_eq_getElem (show p<D.length by omega)]
    have dp:=HD5.out.cell hdp
    have dz:=HD5.out.fz p
    obtain⟨n1,n2,n3⟩:=HNG.out
    obtain⟨xk,xt,xa,xc,xks,xpl⟩:=x
    simp only at *
    clear hx hpl hT hD hO fw F5 he hDl hOl hdp
    cases hmk:MK.getD p false with
    | true =>
      rw[hmk] at t0 HS
      have HS2:Hid (bareP L (p+1)=(D.set p (-1),O.map nb)):=HS.out
      have fS:Fr [gn] (wr.alloc (.cells #[.int .i64 xk,.string xt,.slice xa xks.length xc,.int .i64 xpl] 55)) ((wr.alloc (.cells #[.int .i64 xk,.string xt,.slice xa xks.length xc,.int .i64 xpl] 55)).setCell ⟨gn,p,none⟩ (.int .i64 (-1))):=(Fr.refl _ _).setCell (.inl (by simp)) _
      have HD6:=hidC (HD5.out.set p (-1))
      have HT6:=hidC (HT5.out.fr fS (by simp;omega))
      have HO6:=hidC (HO5.out.fr fS (by simp;omega))
      have HF6:=hidC (HFW.out.trans fS)
      clear fS HS hmk
      go_wp2
      go_roundw
      case rel=>exact⟨p+1,hlt,by go_num,HF6.out,_,O,HD6.out,HT6.out,HO6.out,HS2.out.symm⟩
      case measure=>simp[intOf];omega
    | false =>
      rw[hmk] at t0 HS
      clear hmk
      by_cases h29:xk=29
      ·subst h29
       obtain⟨z,rfl⟩:=H29.out rfl
       have HS2:Hid (bareP L (p+1)=(D.set p (D.getD z.toNat 0),O.map nb)):=HS.out
       simp only[List.length_cons,List.length_nil,Nat.zero_add] at *
       obtain⟨z0,z1⟩:=HKS.out z (by simp)
       obtain⟨b2,o2,ea,hb2,hc2⟩:=HK5.out 0 z rfl
       subst ea
       rw[Nat.add_zero] at hc2
       obtain⟨q,rfl⟩:=Int.eq_ofNat_of_zero_le z0
       rw[Int.toNat_natCast] at HS2
       have hdq:D[q]? = some (D.getD q 0):=by simp[List.getD,List.getElem?_eq_getElem (show q<D.length by have:=HDL.out;omega)]
       have dq:=HD5.out.cell hdq
       generalize D.getD q 0=dv at *
       have fS:Fr [gn] (wr.alloc (.cells #[.int .i64 29,.string xt,.slice (some ⟨b2,o2,none⟩) 1 xc,.int .i64 xpl] 55)) ((wr.alloc (.cells #[.int .i64 29,.string xt,.slice (some ⟨b2,o2,none⟩) 1 xc,.int .i64 xpl] 55)).setCell ⟨gn,p,none⟩ (.int .i64 dv)):=(Fr.refl _ _).setCell (.inl (by simp)) _
       have HD6:=hidC (HD5.out.set p dv)
       have HT6:=hidC (HT5.out.fr fS (by simp;omega))
       have HO6:=hidC (HO5.out.fr fS (by simp;omega))
       have HF6:=hidC (HFW.out.trans fS)
       have qI:(q:Int)<len:=by omega
       clear fS HS hdq
       go_wp2
       go_roundw
       case rel=>exact⟨p+1,hlt,by go_num,HF6.out,_,O,HD6.out,HT6.out,HO6.out,HS2.out.symm⟩
       case measure=>simp[intOf];omega
      ·have j29:(xk == 29)=false:=by simpa using h29
       rw[if_neg (by simp),if_neg h29] at HS
       have fS:Fr [gn] (wr.alloc (.cells #[.int .i64 xk,.string xt,.slice xa xks.length xc,.int .i64 xpl] 55)) ((wr.alloc (.cells #[.int .i64 xk,.string xt,.slice xa xks.length xc,.int .i64 xpl] 55)).setCell ⟨gn,p,none⟩ (.int .i64 (O.length:Nat))):=(Fr.refl _ _).setCell (.inl (by simp)) _
       have HD6:=hidC (HD5.out.set p (O.length:Nat))
       have HT6:=hidC (HT5.out.fr fS (by simp;omega))
       have HO6:=hidC (HO5.out.fr fS (by simp;omega))
       have HF6:=hidC (HFW.out.trans fS)
       have bx6:=(fS.block _ (Array.getElem?_eq_some_iff.1 bx).1 (by simp;omega)).trans bx
       have f20:=at_cells bx6 0 rfl
       have f21:=at_cells bx6 1 rfl
       have f22:=at_cells bx6 2 rfl
       have f23:=at_cells bx6 3 rfl
       have HK6:=hidC (HK5.out.fr fS (by simp;omega))
       have C25:=ren_any (kc:=xc) (gc:=len) HK6.out rfl hkm HD6.out (by rw[List.length_set];exact HDL.out) hlm HKS.out
       have hsz6:((wr.alloc (.cells #[.int .i64 xk,.string xt,.slice xa xks.length xc,.int .i64 xpl] 55)).setCell ⟨gn,p,none⟩ (.int .i64 (O.length:Nat))).heap.size=wr.heap.size+1:=by simp
       have HSZ6:=hidC hsz6
       clear hsz6 fS HT5 HD5 HO5 HFW HK5 bx
       go_wp2_with fail
       generalize (wr.alloc (.cells #[.int .i64 xk,.string xt,.slice xa xks.length xc,.int .i64 xpl] 55)).setCell ⟨gn,p,none⟩ (.int .i64 (O.length:Nat))=W6 at *
       refine C25.mono ?_
       rintro e w7 ⟨nv,rfl,hn,f7⟩
       obtain⟨na,nc,rfl,_⟩:=own_slice hn
       have bx7:=(f7.block _ (Array.getElem?_eq_some_iff.1 bx6).1 (by simp)).trans bx6
       have g0:=at_cells bx7 0 rfl
       have g1:=at_cells bx7 1 rfl
       have g2:=at_cells bx7 2 rfl
       have g3:=at_cells bx7 3 rfl
       have gz:∀ i,w7.frozen? ⟨wr.heap.size,i,none⟩=false:=fun i=>by simp[World.frozen?,bx7]
       generalize hrl:(renL (D.set p (O.length:Nat)) xks).length=rl at *
       have HRL:Hid (rl≤50000):=by have:=renL_len (D.set p (O.length:Nat)) xks;rw[hrl] at this;unfold Hid;omega
       have fS7:Fr [wr.heap.size] w7 (w7.setCell ⟨wr.heap.size,2,none⟩ (.slice na rl nc)):=(Fr.refl _ _).setCell (.inl (by simp)) _
       have bx8:=set4_2 (v:=.slice na rl nc) bx7
       have h80:=at_cells bx8 0 rfl
       have h81:=at_cells bx8 1 rfl
       have h82:=at_cells bx8 2 rfl
       have h83:=at_cells bx8 3 rfl
       have HD8:=hidC ((HD6.out.fr f7 (by simp)).fr fS7 (by simp;omega))
       have HT8:=hidC ((HT6.out.fr f7 (by simp)).fr fS7 (by simp;omega))
       have HO7:=HO6.out.fr f7 (by simp)
       have HO8:Hid (BM (w7.setCell ⟨wr.heap.size,2,none⟩ (.slice na rl nc)) w3.heap.size (.slice ba O.length bc) O):=⟨own_fr HO7.row fS7 (fun k hk=>by have:=HOB.out.1 k hk;simp;omega),fun y hy=>own_fr (HO7.kid y hy) fS7 (fun k hk=>by have:=HOB.out.2 y hy k hk;simp;omega),HO7.tx⟩
       have HN8:=hidC (own_fr hn fS7 (fun k hk=>by have:=(hn.lt k hk).1;have:=HSZ6.out;simp;omega))
       have HF8:=hidC ((HF6.out.trans (f7.sub (by simp))).over' fS7 (by simp;omega))
       have HS8:Hid (w3.heap.size≤(w7.setCell ⟨wr.heap.size,2,none⟩ (.slice na rl nc)).heap.size∧(w7.setCell ⟨wr.heap.size,2,none⟩ (.slice na rl nc)).heap.size=w7.heap.size∧wr.heap.size+1≤w7.heap.size):=by
        have h1:=f7.size
        have h2:=HSZ6.out
        unfold Hid
        refine⟨by simp;omega,by simp,by omega⟩
       have hnew:∀ j u,[Value.int .i64 xk,.string xt,.slice na rl nc,.int .i64 xpl][j]? = some u→((w7.setCell ⟨wr.heap.size,2,none⟩ (.slice na rl nc)).alloc (.cells #[.int .i64 xk,.string xt,.slice na rl nc,.int .i64 xpl] 55)).cell? ((⟨w7.heap.size,0,none⟩ : Addr).add j)=some u:=by
        have:=new_four (w7.setCell ⟨wr.heap.size,2,none⟩ (.slice na rl nc)) (.int .i64 xk) (.string xt) (.slice na rl nc) (.int .i64 xpl) 55
        rw[HS8.out.2.1] at this
        exact this
       have HRLE:=hidC hrl
       clear hrl hn f7 bx6 bx7 bx8 fS7 HO7 HO6 HD6 HT6 HF6 C25 f20 f21 f22 f23 HK6 e0 e2 c0 c1 c2 c3 t0 dp dz
       go_wp2_with (at_builtin;refine wpList_append_own_at _ rfl _ _ 23 rfl w3.heap.size 55 i55 _ 4 56 under23o hi55 hz55 hs55 hb55 rfl (by decide) (.slice ba O.length bc) O.length (flatO O) rfl (HO8.out.row.alloc _) ⟨w7.heap.size,0,none⟩ 1 1 [.int .i64 xk,.string xt,.slice na rl nc,.int .i64 xpl] rfl rfl hnew (by simp[Value.oneCell']) (by have:=HOL.out;unfold maxLen;omega) (by have:=HOL.out;omega) (by have:=HS8.out;simp at this ⊢;omega) ?_)
       intro v9 w9 hown9 hgrow hnil hloc
       have f9:Fr (Value.slice ba O.length bc).ownBlock.toList (w7.setCell ⟨wr.heap.size,2,none⟩ (.slice na rl nc)) w9:=((Fr.refl _ _).alloc _).trans ((Fr.ofGrown hgrow).sub (fun k hk=>.inl hk))
       have HROW:Hid (BM w9 w3.heap.size v9 (O++[⟨xk,xt,na,nc,renL (D.set p (O.length:Nat)) xks,xpl⟩])):=by
        refine⟨?_,fun y hy=>?_,fun y hy=>?_⟩
        ·rw[List.length_append,flatO_snoc]
         have e:cellsO ⟨xk,xt,na,nc,renL (D.set p (O.length:Nat)) xks,xpl⟩ = [.int .i64 xk,.string xt,.slice na rl nc,.int .i64 xpl]:=by simp only[cellsO,HRLE.out]
         rw[e]
         exact hown9
        ·rw[List.mem_append,List.mem_singleton] at hy
         rcases hy with hy | rfl
         ·exact own_fr (HO8.out.kid y hy) f9 (fun k hk hm=>by simp only[Option.mem_toList] at hm;exact own_apart (HO8.out.kid y hy) HO8.out.row (by decide) k hk hm)
         ·have h1:=own_fr HN8.out f9 (fun k hk hm=>by simp only[Option.mem_toList] at hm;exact own_apart HN8.out HO8.out.row (by decide) k hk hm)
          simp only
          rw[HRLE.out]
          exact own_base (by have:=HSZ6.out;omega) h1
        ·rw[List.mem_append,List.mem_singleton] at hy
         rcases hy with hy | rfl
         ·exact HO8.out.tx y hy
         ·exact HTX.out
       have HD9:=hidC (HD8.out.fr f9 (fun hm=>by simp only[Option.mem_toList] at hm;have:=(HO8.out.row.lt gn hm).1;omega))
       have HT9:=hidC (HT8.out.fr f9 (fun hm=>by simp only[Option.mem_toList] at hm;have:=(HO8.out.row.lt gm hm).1;omega))
       have HF9:=hidC (HF8.out.over' f9 (fun k hk=>by simp only[Option.mem_toList] at hk;exact (HO8.out.row.lt k hk).1))
       obtain⟨va,vc,rfl,_⟩:=own_slice hown9
       clear hown9 hgrow hnil hloc f9 hnew HO8 HN8 HD8 HT8 HF8 h80 h81 h82 h83 g0 g1 g2 g3 gz
       go_wp2
       go_roundw
       case rel=>exact⟨p+1,hlt,by go_num,HF9.out,_,_,HD9.out,HT9.out,HROW.out,by unfold Hid;rw[HS.out,List.map_append];rfl⟩
       case measure=>simp[intOf];omega
   ·have hpI:¬ (p:Int)<len:=by omega
    have hpe:p=len:=by omega
    subst hpe
    have HB:Hid (BM wr w.heap.size (.slice ba O.length bc) O):=⟨own_base (by have:=HF3.out.size;omega) hO.row,fun x hx=>own_base (by have:=HF3.out.size;omega) (hO.kid x hx),hO.tx⟩
    have HE:Hid (O.map nb=(bareP L L.length).2):=by unfold Hid;rw[HLN.out,← he.out]
    have HFF:=hidC (HF3.out.over fw (by simp;omega))
    clear he hO hD hT fw
    go_wp2
    exact bodyPost_ret (v:=.tuple #[.slice ba O.length bc,.int .i64 0]) (by simp[results,Tryz.results13]) rfl ⟨(HO.out _ _).2 (by rw[if_neg (by simp)];exact⟨ba,bc,O,rfl,HE.out,HB.out⟩),HFF.out⟩
 ·have h0' : ((er:Int) != 0)=true:=by simp;omega
  go_wp2
  exact bodyPost_ret (v:=.tuple #[.slice none 0 0,.int .i64 er]) (by simp[results,Tryz.results13]) rfl ⟨(HO.out _ _).2 (by rw[if_pos h0]),f1⟩
def goneL (L:List Nd) : Nat→List Bool
 | 0=>List.replicate L.length false
 | p+1=>let T:=if kdN L p=13 then setAll (goneL L p) (wn L p 0) else goneL L p
   T.set p (T.getD p false || decide (kdN L p=29))
theorem goneL_len (L:List Nd) : ∀ p,(goneL L p).length=L.length
 | 0=>by simp[goneL]
 | p+1=>by
   unfold goneL
   simp only[List.length_set]
   split
   ·rw[setAll_len,goneL_len L p]
   ·exact goneL_len L p
def rbareS (L:List Nd) (G:List Bool) (p:Nat) (s:List Int×List Nd) : List Int×List Nd:=match L[p]? with
 | none=>s
 | some x=>if x.kind=29 then (s.1.set p (s.1.getD (x.ks.headD 0).toNat 0),s.2)
   else if G.getD p false then s
   else (s.1.set p s.2.length,s.2++[⟨x.kind,x.text,none,0,(x.ks.filter (fun k=>kdN L k.toNat != 13)).map (fun k=>s.1.getD k.toNat 0),x.pl⟩])
def rbareP (L:List Nd) : Nat→List Int×List Nd
 | 0=>(List.replicate L.length 0,[])
 | p+1=>rbareS L (goneL L L.length) p (rbareP L p)
theorem rbareP_len (L:List Nd) : ∀ p,(rbareP L p).1.length=L.length∧(rbareP L p).2.length≤p
 | 0=>by simp[rbareP]
 | p+1=>by
   obtain⟨h1,h2⟩:=rbareP_len L p
   rw[rbareP]
   unfold rbareS
   split
   ·exact⟨h1,by omega⟩
   ·split
    ·exact⟨by simp[h1],by simp;omega⟩
    ·split
     ·exact⟨h1,by omega⟩
     ·exact⟨by simp[h1],by simp;omega⟩
/-! Both are the same, of a tree. -/
theorem setAll_get (T:List Bool) (i:Nat) : ∀ l,(setAll T l).getD i false=(T.getD i false || (decide (i<T.length)&&l.contains i))
 | []=>by simp[setAll]
 | k::r=>by
   rw[setAll,setAll_get _ i r,List.length_set]
   by_cases hik:i=k
   ·subst hik
    by_cases hl:i<T.length
    ·simp[List.getD,List.getElem?_set_self hl,hl]
    ·simp[List.getD,hl,List.getElem?_eq_none (show T.length≤i by omega)]
   ·have:(T.set k true).getD i false=T.getD i false:=by simp[List.getD,List.getElem?_set_ne (fun e=>hik e.symm)]
    rw[this]
    have:(k::r).contains i=r.contains i:=by simp[hik]
    rw[this]
termination_by l=>l.length
theorem set_getD {α:Type} {l:List α} {p i:Nat} {v d:α} : (l.set p v).getD i d=if p=i∧i<l.length then v else l.getD i d:=by
 by_cases h:p=i
 ·subst h
  by_cases hl:p<l.length
  ·simp[List.getD,List.getElem?_set_self hl,hl]
  ·simp[List.getD,hl,List.getElem?_eq_none (show l.length≤p by omega)]
 ·simp[List.getD,List.getElem?_set_ne h,h]
theorem mark_get (L:List Nd) (i:Nat) (hi:i<L.length) : ∀ p,(markL L p).getD i false=decide (∃ m,m<p∧kdN L m=13∧(i=m∨i∈kN L m))
 | 0=>by simp[markL,List.getD,hi]
 | p+1=>by
   have ih:=mark_get L i hi p
   unfold markL
   split
   ·rename_i h13
    rw[setAll_get,List.length_set,markL_len,set_getD,markL_len]
    rw[ih]
    rw[Bool.eq_iff_iff]
    simp only[Bool.or_eq_true,Bool.and_eq_true,decide_eq_true_eq,List.contains_iff_mem,hi,true_and,and_true]
    constructor
    ·rintro (h | h)
     ·split at h
      ·rename_i e;exact⟨p,by omega,h13,.inl e.symm⟩
      ·obtain⟨m,h1,h2⟩:=of_decide_eq_true h;exact⟨m,by omega,h2⟩
     ·exact⟨p,by omega,h13,.inr h⟩
    ·rintro ⟨m,hm,h2,h3⟩
     by_cases e:m=p
     ·subst e
      rcases h3 with rfl | h3
      ·left;simp
      ·right;exact h3
     ·left
      split
      ·rfl
      ·exact decide_eq_true ⟨m,by omega,h2,h3⟩
   ·rename_i h13
    rw[ih,Bool.eq_iff_iff]
    simp only[decide_eq_true_eq]
    constructor
    ·rintro ⟨m,h1,h2⟩;exact⟨m,by omega,h2⟩
    ·rintro ⟨m,h1,h2,h3⟩
     exact⟨m,by rcases Nat.lt_succ_iff_lt_or_eq.1 h1 with h | rfl;exact h;exact absurd h2 h13,h2,h3⟩
theorem sumN_ge {f:Nat→Nat} : ∀ {n a:Nat},a<n→f a≤sumN n f
 | 0,a,h=>by omega
 | n+1,a,h=>by
   simp only[sumN]
   by_cases e:a=n
   ·subst e;omega
   ·have:=sumN_ge (f:=f) (n:=n) (a:=a) (by omega);omega
theorem sumN_two {f:Nat→Nat} : ∀ {n a b:Nat},a<b→b<n→f a+f b≤sumN n f
 | 0,a,b,h,hb=>by omega
 | n+1,a,b,h,hb=>by
   simp only[sumN]
   by_cases e:b=n
   ·subst e
    have:=sumN_ge (f:=f) h
    omega
   ·have:=sumN_two (f:=f) (n:=n) h (by omega)
    omega
theorem one_parent {L:List Nd} {T:List Bool} (h:nodesL L L.length = .ok T) {m n k:Nat} (hm:k∈kN L m) (hn:k∈kN L n) : m=n:=by
 have hl:∀ {m},k∈kN L m→m<L.length:=fun {m} h=>by
  obtain⟨x,q,hx,_⟩:=mem_kN h
  exact (List.getElem?_eq_some_iff.1 hx).1
 have hb:∀ b,b2n b≤1:=by intro b;cases b <;> decide
 have hs:=nodes_count _ _ h (Nat.le_refl _) k
 have h1:=hb (T.getD k false)
 have c1:=List.count_pos_iff.2 hm
 have c2:=List.count_pos_iff.2 hn
 rcases Nat.lt_trichotomy m n with e | e | e
 ·have:=sumN_two (f:=fun i=>(kN L i).count k) e (hl hn)
  omega
 ·exact e
 ·have:=sumN_two (f:=fun i=>(kN L i).count k) e (hl hm)
  omega
theorem flat_single {α:Type} : ∀ (l:List Nat) (g:Nat→List α) (f:Nat→α),(∀ k∈l,g k = [f k])→l.flatMap g=l.map f
 | [],g,f,_=>rfl
 | k::r,g,f,h=>by
   rw[List.flatMap_cons,h k (by simp),flat_single r g f (fun j hj=>h j (by simp[hj]))]
   rfl
theorem wn_merge {L:List Nd} (hA:Ahead L) (S:Shp L) {m:Nat} (h:kdN L m=13) : wn L m 0=m::kN L m:=by
 obtain⟨x,hx,hk⟩:=kdN_some h (by decide)
 rw[wn_eq hA,flat_single (kN L m) _ (fun k=>k) (fun k hk'=>?_)]
 ·simp
 ·obtain⟨y,q,hy,hq,rfl⟩:=mem_kN hk'
  rw[hx] at hy
  cases hy
  have h17:=S.rec_ hx (.inr hk) q hq
  rw[kd_kdN] at h17
  unfold wn
  rw[wk_names hA S h17]
  rfl
theorem gone_get {L:List Nd} (hA:Ahead L) (S:Shp L) (i:Nat) (hi:i<L.length) : ∀ p,p≤L.length→(goneL L p).getD i false=(decide (∃ m,m<p∧kdN L m=13∧(i=m∨i∈kN L m)) || decide (i<p∧kdN L i=29))
 | 0,_=>by simp[goneL,List.getD,hi]
 | p+1,hp=>by
   have ih:=gone_get hA S i hi p (by omega)
   have hT:(if kdN L p=13 then setAll (goneL L p) (wn L p 0) else goneL L p).getD i false=(decide (∃ m,m<p+1∧kdN L m=13∧(i=m∨i∈kN L m)) || decide (i<p∧kdN L i=29)):=by
    split
    ·rename_i h13
     rw[setAll_get,ih,goneL_len,wn_merge hA S h13,Bool.eq_iff_iff]
     simp only[Bool.or_eq_true,Bool.and_eq_true,decide_eq_true_eq,List.contains_iff_mem,List.mem_cons,hi,true_and]
     constructor
     ·rintro ((⟨m,h1,h2⟩ | h) | h)
      ·exact .inl ⟨m,by omega,h2⟩
      ·exact .inr h
      ·exact .inl ⟨p,by omega,h13,h⟩
     ·rintro (⟨m,h1,h2,h3⟩ | h)
      ·by_cases e:m=p
       ·subst e;exact .inr h3
       ·exact .inl (.inl ⟨m,by omega,h2,h3⟩)
      ·exact .inl (.inr h)
    ·rename_i h13
     rw[ih,Bool.eq_iff_iff]
     simp only[Bool.or_eq_true,decide_eq_true_eq]
     constructor
     ·rintro (⟨m,h1,h2⟩ | h)
      ·exact .inl ⟨m,by omega,h2⟩
      ·exact .inr h
     ·rintro (⟨m,h1,h2,h3⟩ | h)
      ·by_cases e:m=p
       ·subst e;exact absurd h2 h13
       ·exact .inl ⟨m,by omega,h2,h3⟩
      ·exact .inr h
   have hTl:(if kdN L p=13 then setAll (goneL L p) (wn L p 0) else goneL L p).length=L.length:=by
    split
    ·rw[setAll_len,goneL_len]
    ·exact goneL_len L p
   unfold goneL
   simp only
   generalize (if kdN L p=13 then setAll (goneL L p) (wn L p 0) else goneL L p)=T1 at *
   rw[set_getD]
   split
   ·rename_i e
    obtain⟨rfl,_⟩:=e
    rw[hT,Bool.eq_iff_iff]
    simp only[Bool.or_eq_true,decide_eq_true_eq]
    constructor
    ·rintro ((h | ⟨h,_⟩) | h)
     ·exact .inl h
     ·omega
     ·exact .inr ⟨by omega,h⟩
    ·rintro (h | ⟨_,h⟩)
     ·exact .inl (.inl h)
     ·exact .inr h
   ·rename_i e
    rw[hT,Bool.eq_iff_iff]
    simp only[Bool.or_eq_true,decide_eq_true_eq]
    rw[hTl] at e
    constructor
    ·rintro (h | ⟨h,h2⟩)
     ·exact .inl h
     ·exact .inr ⟨by omega,h2⟩
    ·rintro (h | ⟨h,h2⟩)
     ·exact .inl h
     ·exact .inr ⟨by omega,h2⟩
abbrev Mk (L:List Nd) (i:Nat) : Prop:=∃ m,m<L.length∧kdN L m=13∧(i=m∨i∈kN L m)
theorem mk_kid {L:List Nd} {T:List Bool} (hn:nodesL L L.length = .ok T) {n k:Nat} (hk:k∈kN L n) (h:Mk L k) : kdN L k=13∨kdN L n=13:=by
 obtain⟨m,_,h2,rfl | h3⟩:=h
 ·exact .inl h2
 ·rw[one_parent hn hk h3];exact .inr h2
theorem both_same {L:List Nd} {T:List Bool} (hn:nodesL L L.length = .ok T) (hA:Ahead L) (S:Shp L) : ∀ p,p≤L.length→(bareP L p).2=(rbareP L p).2∧(∀ i,i<p→Mk L i→(bareP L p).1.getD i 0 = -1)∧(∀ i,i<p→¬ Mk L i→(bareP L p).1.getD i 0=(rbareP L p).1.getD i 0∧0≤(bareP L p).1.getD i 0)
 | 0,_=>⟨rfl,fun i hi=>by omega,fun i hi=>by omega⟩
 | p+1,hp=>by
   obtain⟨h1,h2,h3⟩:=both_same hn hA S p (by omega)
   have hpl:p<L.length:=by omega
   have hx:L[p]? = some L[p]:=List.getElem?_eq_getElem hpl
   generalize L[p]=x at hx
   have hl1:=(bareP_len L p).1
   have hl2:=(rbareP_len L p).1
   have hM:(markL L L.length).getD p false=decide (Mk L p):=mark_get L p hpl _
   have hG:(goneL L L.length).getD p false=(decide (Mk L p) || decide (x.kind=29)):=by
    rw[gone_get hA S p hpl _ (Nat.le_refl _),Bool.eq_iff_iff]
    simp only[Bool.or_eq_true,decide_eq_true_eq,hpl,true_and,kdN_of hx]
   rw[bareP,rbareP]
   unfold bareS rbareS
   rw[hx]
   simp only[hM,hG]
   have hkid:∀ q∈x.ks,q.toNat∈kN L p:=fun q hq=>by rw[kN_some hx];exact List.mem_map.2 ⟨q,hq,rfl⟩
   have hlt:∀ q∈x.ks,q.toNat<p:=fun q hq=>hA.kid (hkid q hq)
   by_cases hm:Mk L p
   · -- marked: a merge or a name
    have h29:x.kind≠29:=fun h29=>by
     obtain⟨m,_,hm13,rfl | hmem⟩:=hm
     ·rw[kdN_of hx,h29] at hm13;exact absurd hm13 (by decide)
     ·obtain⟨y,hy,hyk⟩:=kdN_some hm13 (by decide)
      obtain⟨y',q,hy',hq,e⟩:=mem_kN hmem
      rw[hy] at hy'
      cases hy'
      have h17:=S.rec_ hy (.inr hyk) q hq
      rw[kd_kdN,e,kdN_of hx,h29] at h17
      exact absurd h17 (by decide)
    rw[if_pos (decide_eq_true hm),if_neg h29,if_pos (by simp[hm])]
    refine⟨h1,fun i hi hmi=>?_,fun i hi hmi=>?_⟩
    ·rw[set_getD]
     split
     ·rfl
     ·exact h2 i (by rename_i e;rw[hl1] at e;omega) hmi
    ·have hip:i≠p:=fun e=>hmi (e ▸ hm)
     rw[set_getD,if_neg (by omega)]
     exact h3 i (by omega) hmi
   ·rw[if_neg (by simp[hm])]
    by_cases h29:x.kind=29
    ·rw[if_pos h29,if_pos h29]
     obtain⟨z,hz,hzk⟩:=S.one hx (by omega)
     have hzm:z∈x.ks:=by rw[hz];simp
     have hzn:¬ Mk L z.toNat:=fun h=>by
      rcases mk_kid hn (hkid z hzm) h with h | h
      ·rw[kd_kdN,h] at hzk;exact absurd hzk (by decide)
      ·rw[kdN_of hx,h29] at h;exact absurd h (by decide)
     have hzv:=h3 z.toNat (hlt z hzm) hzn
     have ehd:x.ks.headD 0=z:=by rw[hz];rfl
     rw[ehd]
     refine⟨h1,fun i hi hmi=>?_,fun i hi hmi=>?_⟩
     ·have hip:i≠p:=fun e=>hm (e ▸ hmi)
      rw[set_getD,if_neg (by omega)]
      exact h2 i (by omega) hmi
     ·rw[set_getD,set_getD,hl1,hl2]
      split
      ·exact hzv
      ·exact h3 i (by omega) hmi
    ·rw[if_neg h29,if_neg h29,if_neg (by simp[hm,h29])]
     have hn13:kdN L p≠13:=fun h=>hm ⟨p,hpl,h,.inl rfl⟩
     have ekid:renL ((bareP L p).1.set p ((bareP L p).2.length:Nat)) x.ks=(x.ks.filter (fun k=>kdN L k.toNat != 13)).map (fun k=>(rbareP L p).1.getD k.toNat 0):=by
      unfold renL
      have e0:∀ k∈x.ks,((bareP L p).1.set p ((bareP L p).2.length:Nat)).getD k.toNat 0=(bareP L p).1.getD k.toNat 0:=fun k hk=>by
       rw[set_getD,if_neg (by have:=hlt k hk;omega)]
      have e1:∀ k∈x.ks,((((bareP L p).1.set p ((bareP L p).2.length:Nat)).getD k.toNat 0) != -1)=(kdN L k.toNat != 13):=fun k hk=>by
       rw[e0 k hk]
       by_cases h13:kdN L k.toNat=13
       ·have hkl:k.toNat<L.length:=by have:=hlt k hk;omega
        rw[h2 k.toNat (hlt k hk) ⟨k.toNat,hkl,h13,.inl rfl⟩]
        simp[h13]
       ·have hnk:¬ Mk L k.toNat:=fun h=>by
         rcases mk_kid hn (hkid k hk) h with h | h
         ·exact h13 h
         ·exact hn13 h
        have:=(h3 k.toNat (hlt k hk) hnk).2
        have e2:((bareP L p).1.getD k.toNat 0 != -1)=true:=by simp;simp at this;omega
        rw[e2]
        simp[h13]
      rw[List.filter_congr e1]
      refine List.map_congr_left (fun k hk=>?_)
      obtain⟨hk1,hk2⟩:=List.mem_filter.1 hk
      rw[e0 k hk1]
      have h13:kdN L k.toNat≠13:=by simpa using hk2
      have hnk:¬ Mk L k.toNat:=fun h=>by
       rcases mk_kid hn (hkid k hk1) h with h | h
       ·exact h13 h
       ·exact hn13 h
      exact (h3 k.toNat (hlt k hk1) hnk).1
     refine⟨by rw[h1] at ekid ⊢;rw[ekid],fun i hi hmi=>?_,fun i hi hmi=>?_⟩
     ·have hip:i≠p:=fun e=>hm (e ▸ hmi)
      rw[set_getD,if_neg (by omega)]
      exact h2 i (by omega) hmi
     ·rw[set_getD,set_getD,hl1,hl2,h1]
      split
      ·exact⟨rfl,by omega⟩
      ·have:=h3 i (by omega) hmi
       exact this
end Go.Proofs.YtnmfcaahdeddnaaGreatDoor.T5
namespace Go.Proofs.YtnmfcaahdeddnaaGreatDoor.T5
open Go.RowKit
set_option linter.unusedVariables false
set_option linter.unusedSimpArgs false
theorem no_hint (L:List Nd) : ∀ p,p≤L.length→∀ x∈(bareP L p).2,x.kind≠13∧x.kind≠29
 | 0,_,x,h=>by simp[bareP] at h
 | p+1,hp,x,h=>by
   have ih:=no_hint L p (by omega)
   rw[bareP,bareS] at h
   split at h
   ·exact ih x h
   ·rename_i y hy
    split at h
    ·exact ih x h
    ·rename_i hm
     split at h
     ·exact ih x h
     ·rename_i h29
      simp only[List.mem_append,List.mem_singleton] at h
      rcases h with h | rfl
      ·exact ih x h
      ·refine⟨fun h13=>?_,h29⟩
       rw[mark_get L p (by omega)] at hm
       exact hm (decide_eq_true ⟨p,by omega,by rw[kdN_of hy];exact h13,.inl rfl⟩)
theorem bare_ahead (L:List Nd) (hA:Ahead L) (S:Shp L) : ∀ p,p≤L.length→(∀ i,i<p→-1≤(bareP L p).1.getD i 0∧(bareP L p).1.getD i 0<(bareP L p).2.length)∧Ahead (bareP L p).2
 | 0,_=>⟨fun i hi=>by omega,fun i x hx=>by simp[bareP] at hx⟩
 | p+1,hp=>by
   obtain⟨h1,h2⟩:=bare_ahead L hA S p (by omega)
   have hl:=(bareP_len L p).1
   have hx:L[p]? = some (L[p]'(by omega)):=List.getElem?_eq_getElem _
   generalize L[p]'(by omega)=x at hx
   rw[bareP,bareS,hx]
   simp only
   split
   ·refine⟨fun i hi=>?_,h2⟩
    simp only[set_getD]
    split
    ·exact⟨by omega,by omega⟩
    ·rename_i e
     exact h1 i (by omega)
   ·split
    ·rename_i hm h29
     refine⟨fun i hi=>?_,h2⟩
     simp only[set_getD]
     split
     ·rename_i e
      obtain⟨z,hz,_⟩:=S.one hx (by omega)
      have:=hA p x hx z (by rw[hz];simp)
      rw[hz,List.headD_cons]
      exact h1 z.toNat (by omega)
     ·rename_i e
      exact h1 i (by omega)
    ·have key:∀ k∈renL ((bareP L p).1.set p (bareP L p).2.length) x.ks,0≤k∧k<(bareP L p).2.length:=fun k hk=>by
      unfold renL at hk
      obtain⟨q,hq,rfl⟩:=List.mem_map.1 hk
      obtain⟨hq1,hq2⟩:=List.mem_filter.1 hq
      obtain⟨q0,q1⟩:=hA p x hx q hq1
      rw[set_getD,if_neg (by omega)] at hq2 ⊢
      have h3:=h1 q.toNat (by omega)
      simp at hq2
      rw[List.getD_eq_getElem?_getD] at h3 ⊢
      exact⟨by omega,h3.2⟩
     refine⟨fun i hi=>?_,fun i y hy k hk=>?_⟩
     ·simp only[set_getD,List.length_append,List.length_singleton]
      split
      ·exact⟨by omega,by omega⟩
      ·rename_i e
       have:=h1 i (by omega)
       exact⟨this.1,by omega⟩
     ·by_cases hi:i<(bareP L p).2.length
      ·rw[List.getElem?_append_left hi] at hy
       exact h2 i y hy k hk
      ·have hlt:=(List.getElem?_eq_some_iff.1 hy).1
       simp only[List.length_append,List.length_singleton] at hlt
       obtain rfl:i=(bareP L p).2.length:=by omega
       rw[List.getElem?_append_right (Nat.le_refl _)] at hy
       simp at hy
       subst hy
       exact key k hk
theorem bare_id {O:List Nd} (hA:Ahead O) (h:∀ x∈O,x.kind≠13∧x.kind≠29) : ∀ p,p≤O.length→(bareP O p).2=(O.take p).map nb∧∀ i,i<p→(bareP O p).1.getD i 0=i
 | 0,_=>⟨by simp[bareP],fun i hi=>by omega⟩
 | p+1,hp=>by
   obtain⟨h1,h2⟩:=bare_id hA h p (by omega)
   have hl:=(bareP_len O p).1
   have hx:O[p]? = some (O[p]'(by omega)):=List.getElem?_eq_getElem _
   generalize O[p]'(by omega)=x at hx
   have hxh:=h x (List.mem_of_getElem? hx)
   have hno:∀ m,kdN O m≠13:=fun m hm=>by
    obtain⟨y,hy,hyk⟩:=kdN_some hm (by decide)
    exact (h y (List.mem_of_getElem? hy)).1 hyk
   have hM:(markL O O.length).getD p false=false:=by
    rw[mark_get O p (by omega)]
    exact decide_eq_false (fun ⟨m,_,hm,_⟩=>hno m hm)
   have hll:(bareP O p).2.length=p:=by rw[h1,List.length_map,List.length_take];omega
   rw[bareP,bareS,hx]
   simp only[hM]
   rw[if_neg (by simp),if_neg hxh.2,hll]
   have hr:renL ((bareP O p).1.set p (p:Nat)) x.ks=x.ks:=by
    unfold renL
    have e:∀ k∈x.ks,((bareP O p).1.set p (p:Nat)).getD k.toNat 0=k:=fun k hk=>by
     obtain⟨k0,k1⟩:=hA p x hx k hk
     rw[set_getD,if_neg (by omega),h2 k.toNat (by omega)]
     omega
    rw[List.filter_eq_self.2 (fun k hk=>by have:=hA p x hx k hk;rw[e k hk];simp;omega)]
    conv=>rhs;rw[← List.map_id x.ks]
    exact List.map_congr_left (fun k hk=>by rw[e k hk];rfl)
   refine⟨?_,fun i hi=>?_⟩
   ·simp only
    rw[hr,h1,List.take_add_one,hx,List.map_append]
    rfl
   ·simp only
    rw[set_getD]
    split
    ·rename_i e
     omega
    ·rename_i e
     exact h2 i (by omega)
theorem shape_R {α:Type} (k:Int) (ks:List α) (f g:α→Int) (hR:∀ q∈ks,g q=f q∨(f q=29∧isEx (g q)=true)) (h:shapeL k (ks.map f)=true) : shapeL k (ks.map g)=true:=by
 have e1:∀ q∈ks,∀ c,c≠29→f q=c→g q=c:=fun q hq c hc hf=>by
  rcases hR q hq with h1 | ⟨h1,_⟩
  ·rw[h1,hf]
  ·exact absurd (h1.symm.trans hf) (fun e=>hc e.symm)
 have e2:∀ q∈ks,isEx (f q)=true→isEx (g q)=true:=fun q hq hf=>by
  rcases hR q hq with h1 | ⟨_,h1⟩
  ·rw[h1];exact hf
  ·exact h1
 have a17:(ks.map f).all (· == 17)=true→(ks.map g).all (· == 17)=true:=fun h=>by
  simp only[List.all_map,List.all_eq_true,Function.comp,beq_iff_eq] at h ⊢
  exact fun q hq=>e1 q hq 17 (by decide) (h q hq)
 have aEx:(ks.map f).all isEx=true→(ks.map g).all isEx=true:=fun h=>by
  simp only[List.all_map,List.all_eq_true,Function.comp] at h ⊢
  exact fun q hq=>e2 q hq (h q hq)
 unfold shapeL at h ⊢
 by_cases d0:k=1
 ·rw[if_pos d0] at h ⊢
  simp only[List.all_map,List.all_eq_true,Function.comp,Bool.or_eq_true,beq_iff_eq] at h ⊢
  exact fun q hq=>(h q hq).imp (e1 q hq 2 (by decide)) (e1 q hq 3 (by decide))
 rw[if_neg d0] at h ⊢
 by_cases d1:k=2∨k=13
 ·rw[if_pos d1] at h ⊢;exact a17 h
 rw[if_neg d1] at h ⊢
 by_cases d2:k=3
 ·rw[if_pos d2] at h ⊢
  rcases List.eq_nil_or_concat ks with rfl | ⟨ps,b,rfl⟩
  ·simp at h
  ·simp only[List.concat_eq_append,List.map_append,List.map_cons,List.map_nil,List.length_append,List.length_cons,List.length_nil,Nat.add_sub_cancel,Nat.zero_add,List.getLastD_concat] at h ⊢
   have t:∀ u:α→Int,(List.map u ps++[u b]).take (List.map u ps).length=List.map u ps:=fun u=>by simp
   rw[t] at h ⊢
   simp only[Bool.and_eq_true,decide_eq_true_eq,List.all_map,List.all_eq_true,Function.comp,beq_iff_eq] at h ⊢
   exact⟨⟨by omega,fun q hq=>e1 q (by simp[hq]) 17 (by decide) (h.1.2 q hq)⟩,e1 b (by simp) 4 (by decide) h.2⟩
 rw[if_neg d2] at h ⊢
 by_cases d3:k=4
 ·rw[if_pos d3] at h ⊢
  simp only[List.all_map,List.all_eq_true,Function.comp] at h ⊢
  intro q hq
  have h1:=h q hq
  have h2:f q≠29:=fun e=>by rw[e] at h1;exact absurd h1 (by decide)
  rw[e1 q hq (f q) h2 rfl]
  exact h1
 rw[if_neg d3] at h ⊢
 by_cases d4:k=5∨k=9∨k=10∨k=11∨k=18∨k=20∨k=24∨k=25∨k=27∨k=29
 ·rw[if_pos d4] at h ⊢
  simp only[Bool.and_eq_true,List.length_map] at h ⊢
  exact⟨aEx h.1,h.2⟩
 rw[if_neg d4] at h ⊢
 by_cases d5:k=6
 ·rw[if_pos d5] at h ⊢
  simp only[Bool.and_eq_true,List.length_map,decide_eq_true_eq] at h ⊢
  refine⟨⟨aEx h.1.1,h.1.2⟩,?_⟩
  match ks,h.1.2 with
  | [a,b],_ =>
    have h3:=h.2
    simp only[List.map_cons,List.headD_cons,Bool.or_eq_true,beq_iff_eq] at h3 ⊢
    rcases h3 with ((h3 | h3) | h3) | h3
    ·exact .inl (.inl (.inl (e1 a (by simp) _ (by decide) h3)))
    ·exact .inl (.inl (.inr (e1 a (by simp) _ (by decide) h3)))
    ·exact .inl (.inr (e1 a (by simp) _ (by decide) h3))
    ·exact .inr (e1 a (by simp) _ (by decide) h3)
 rw[if_neg d5] at h ⊢
 by_cases d6:k=7
 ·rw[if_pos d6] at h ⊢
  simp only[Bool.and_eq_true,List.length_map,decide_eq_true_eq] at h ⊢
  obtain⟨⟨⟨hl,h1⟩,h2⟩,h3⟩:=h
  match ks,hl with
  | [a,b,d],_ =>
    simp only[List.map_cons,List.map_nil,List.getD_cons_zero,List.getD_cons_succ,Bool.or_eq_true,beq_iff_eq] at h1 h2 h3 ⊢
    exact⟨⟨⟨rfl,e2 a (by simp) h1⟩,e1 b (by simp) _ (by decide) h2⟩,h3.imp (e1 d (by simp) _ (by decide)) (e1 d (by simp) _ (by decide))⟩
 rw[if_neg d6] at h ⊢
 by_cases d7:k=8
 ·rw[if_pos d7] at h ⊢
  simp only[Bool.and_eq_true,List.length_map,decide_eq_true_eq] at h ⊢
  obtain⟨⟨hl,h1⟩,h2⟩:=h
  match ks,hl with
  | [a,b],_ =>
    simp only[List.map_cons,List.map_nil,List.getD_cons_zero,List.getD_cons_succ,beq_iff_eq] at h1 h2 ⊢
    exact⟨⟨rfl,e2 a (by simp) h1⟩,e1 b (by simp) _ (by decide) h2⟩
 rw[if_neg d7] at h ⊢
 by_cases d8:k=12
 ·rw[if_pos d8] at h ⊢
  simp only[Bool.and_eq_true,List.length_map,decide_eq_true_eq] at h ⊢
  obtain⟨hl,h1⟩:=h
  match ks,hl with
  | [a],_ =>
    simp only[List.map_cons,List.map_nil,List.getD_cons_zero,beq_iff_eq] at h1 ⊢
    exact⟨rfl,e1 a (by simp) _ (by decide) h1⟩
 rw[if_neg d8] at h ⊢
 by_cases d9:k=19∨k=21
 ·rw[if_pos d9] at h ⊢
  simp only[Bool.and_eq_true,List.length_map] at h ⊢
  exact⟨aEx h.1,h.2⟩
 rw[if_neg d9] at h ⊢
 by_cases d10:k=22
 ·rw[if_pos d10] at h ⊢;exact aEx h
 rw[if_neg d10] at h ⊢
 by_cases d11:k=14∨k=15∨k=16∨k=17∨k=23∨k=26∨k=28∨k=30
 ·rw[if_pos d11] at h ⊢
  simpa using h
 ·rw[if_neg d11] at h;cases h
structure BInv (L:List Nd) (p:Nat) (D:List Int) (O:List Nd) : Prop where
 org:∀ j y,O[j]? = some y→∃ i x,i<p∧L[i]? = some x∧¬ Mk L i∧x.kind≠29∧D.getD i 0=(j:Nat)∧y.kind=x.kind∧y.text=x.text∧y.pl=x.pl∧y.ks=(x.ks.filter (fun k=>kdN L k.toNat != 13)).map (fun k=>D.getD k.toNat 0)
 kd:∀ i,i<p→¬ Mk L i→∃ (d:Nat) (y:Nd),D.getD i 0=(d:Nat)∧O[d]? = some y∧(y.kind=kdN L i∨(kdN L i=29∧isEx y.kind=true))
 apart:∀ i k,i<k→k<p→¬ Mk L i→¬ Mk L k→D.getD i 0=D.getD k 0→∃ n,n<p∧kdN L n=29∧i∈kN L n
set_option maxHeartbeats 1000000 in
theorem binv {L:List Nd} {T:List Bool} (hn:nodesL L L.length = .ok T) (hA:Ahead L) (S:Shp L) : ∀ p,p≤L.length→BInv L p (bareP L p).1 (bareP L p).2
 | 0,_=>⟨fun j y h=>by simp[bareP] at h,fun i hi=>by omega,fun i k _ hk=>by omega⟩
 | p+1,hp=>by
   have B:=binv hn hA S p (by omega)
   obtain⟨_,hm1,_⟩:=both_same hn hA S p (by omega)
   have hpl:p<L.length:=by omega
   have hx:L[p]? = some L[p]:=List.getElem?_eq_getElem hpl
   generalize L[p]=x at hx
   have hl:=(bareP_len L p).1
   have hM:(markL L L.length).getD p false=decide (Mk L p):=mark_get L p hpl _
   have hkid:∀ q∈x.ks,q.toNat∈kN L p:=fun q hq=>by rw[kN_some hx];exact List.mem_map.2 ⟨q,hq,rfl⟩
   have hlt:∀ q∈x.ks,q.toNat<p:=fun q hq=>hA.kid (hkid q hq)
   rw[bareP,bareS,hx]
   simp only[hM]
   generalize (bareP L p).1=D at *
   generalize (bareP L p).2=O at *
   have g:∀ v i,i<p→(D.set p v).getD i 0=D.getD i 0:=fun v i hi=>by rw[set_getD,if_neg (by omega)]
   have gp:∀ v,(D.set p v).getD p 0=v:=fun v=>by rw[set_getD,if_pos ⟨rfl,by omega⟩]
   have orgv:∀ v j y,O[j]? = some y→∃ i x,i<p+1∧L[i]? = some x∧¬ Mk L i∧x.kind≠29∧(D.set p v).getD i 0=(j:Nat)∧y.kind=x.kind∧y.text=x.text∧y.pl=x.pl∧y.ks=(x.ks.filter (fun k=>kdN L k.toNat != 13)).map (fun k=>(D.set p v).getD k.toNat 0):=fun v j y hy=>by
    obtain⟨i,x',h1,h2,h3,h4,h5,h6,h7,h8,h9⟩:=B.org j y hy
    refine⟨i,x',by omega,h2,h3,h4,by rw[g v i h1];exact h5,h6,h7,h8,?_⟩
    rw[h9]
    refine List.map_congr_left (fun k hk=>?_)
    have h10:=hA i x' h2 k (List.mem_filter.1 hk).1
    rw[g v k.toNat (by omega)]
   by_cases hm:Mk L p
   ·rw[if_pos (decide_eq_true hm)]
    refine⟨orgv _,fun i hi hmi=>?_,fun i k hik hk h1 h2 he=>?_⟩
    ·have hip:i≠p:=fun e=>hmi (e ▸ hm)
     obtain⟨d,y,h1,h2,h3⟩:=B.kd i (by omega) hmi
     exact⟨d,y,by simp only;rw[g _ i (by omega)];exact h1,h2,h3⟩
    ·have hkp:k≠p:=fun e=>h2 (e ▸ hm)
     simp only at he
     rw[g _ i (by omega),g _ k (by omega)] at he
     obtain⟨n,h3,h4⟩:=B.apart i k hik (by omega) h1 h2 he
     exact⟨n,by omega,h4⟩
   ·rw[if_neg (by simp[hm])]
    by_cases h29:x.kind=29
    ·rw[if_pos h29]
     obtain⟨z,hz,hzk⟩:=S.one hx (by omega)
     have hzm:z∈x.ks:=by rw[hz];simp
     have hzn:¬ Mk L z.toNat:=fun h=>by
      rcases mk_kid hn (hkid z hzm) h with h | h
      ·rw[kd_kdN,h] at hzk;exact absurd hzk (by decide)
      ·rw[kdN_of hx,h29] at h;exact absurd h (by decide)
     have ehd:x.ks.headD 0=z:=by rw[hz];rfl
     rw[ehd]
     have hzl:=hlt z hzm
     obtain⟨dz,yz,z1,z2,z3⟩:=B.kd z.toNat hzl hzn
     refine⟨orgv _,fun i hi hmi=>?_,fun i k hik hk h1 h2 he=>?_⟩
     ·by_cases hip:i=p
      ·subst hip
       refine⟨dz,yz,by simp only;rw[gp];exact z1,z2,.inr ⟨by rw[kdN_of hx];exact h29,?_⟩⟩
       rcases z3 with z3 | ⟨_,z3⟩
       ·rw[z3,← kd_kdN];exact hzk
       ·exact z3
      ·obtain⟨d,y,h1,h2,h3⟩:=B.kd i (by omega) hmi
       exact⟨d,y,by simp only;rw[g _ i (by omega)];exact h1,h2,h3⟩
     ·simp only at he
      rw[g _ i (by omega)] at he
      by_cases hkp:k=p
      ·subst hkp
       rw[gp] at he
       rcases Nat.lt_trichotomy i z.toNat with h5 | h5 | h5
       ·obtain⟨n,h3,h4⟩:=B.apart i z.toNat h5 hzl h1 hzn he
        exact⟨n,by omega,h4⟩
       ·exact⟨k,by omega,by rw[kdN_of hx];exact h29,by rw[h5];exact hkid z hzm⟩
       ·obtain⟨n,h3,h4,h6⟩:=B.apart z.toNat i h5 hik hzn h1 he.symm
        have:=one_parent hn h6 (hkid z hzm)
        omega
      ·rw[g _ k (by omega)] at he
       obtain⟨n,h3,h4⟩:=B.apart i k hik (by omega) h1 h2 he
       exact⟨n,by omega,h4⟩
    ·rw[if_neg h29]
     have hn13:kdN L p≠13:=fun h=>hm ⟨p,hpl,h,.inl rfl⟩
     refine⟨fun j y hy=>?_,fun i hi hmi=>?_,fun i k hik hk h1 h2 he=>?_⟩
     ·simp only at hy ⊢
      by_cases hj:j<O.length
      ·rw[List.getElem?_append_left hj] at hy
       exact orgv _ j y hy
      ·have hlt2:=(List.getElem?_eq_some_iff.1 hy).1
       simp only[List.length_append,List.length_singleton] at hlt2
       obtain rfl:j=O.length:=by omega
       rw[List.getElem?_append_right (Nat.le_refl _)] at hy
       simp at hy
       subst hy
       refine⟨p,x,by omega,hx,hm,h29,gp _,rfl,rfl,rfl,?_⟩
       simp only
       unfold renL
       have e1:∀ k∈x.ks,((D.set p (O.length:Nat)).getD k.toNat 0 != -1)=(kdN L k.toNat != 13):=fun k hk=>by
        rw[g _ _ (hlt k hk)]
        by_cases h13:kdN L k.toNat=13
        ·have hkl:k.toNat<L.length:=by have:=hlt k hk;omega
         rw[hm1 k.toNat (hlt k hk) ⟨k.toNat,hkl,h13,.inl rfl⟩]
         simp[h13]
        ·have hnk:¬ Mk L k.toNat:=fun h=>by
          rcases mk_kid hn (hkid k hk) h with h | h
          ·exact h13 h
          ·exact hn13 h
         obtain⟨d,y,h1,_⟩:=B.kd k.toNat (hlt k hk) hnk
         rw[h1]
         have e3:(((d:Nat) : Int) != -1)=true:=by rw[bne_iff_ne];omega
         have e4:(kdN L k.toNat != 13)=true:=by rw[bne_iff_ne];exact h13
         rw[e3,e4]
       rw[List.filter_congr e1]
     ·simp only
      by_cases hip:i=p
      ·subst hip
       refine⟨O.length,_,gp _,List.getElem?_concat_length,.inl ?_⟩
       rw[kdN_of hx]
      ·obtain⟨d,y,h1,h2,h3⟩:=B.kd i (by omega) hmi
       exact⟨d,y,by rw[g _ i (by omega)];exact h1,by rw[List.getElem?_append_left (List.getElem?_eq_some_iff.1 h2).1];exact h2,h3⟩
     ·simp only at he
      rw[g _ i (by omega)] at he
      obtain⟨d,y,h3,h4,_⟩:=B.kd i (by omega) h1
      have hd:=(List.getElem?_eq_some_iff.1 h4).1
      by_cases hkp:k=p
      ·subst hkp
       rw[gp,h3] at he
       omega
      ·rw[g _ k (by omega)] at he
       obtain⟨n,h3,h4⟩:=B.apart i k hik (by omega) h1 h2 he
       exact⟨n,by omega,h4⟩
end Go.Proofs.YtnmfcaahdeddnaaGreatDoor.T5
namespace Go.Proofs.YtnmfcaahdeddnaaGreatDoor.T5
open Go.RowKit
set_option linter.unusedVariables false
set_option linter.unusedSimpArgs false
set_option linter.unusedSectionVars false
theorem sumN_le_one {f:Nat→Nat} : ∀ {n:Nat},(∀ i,i<n→f i≤1)→(∀ i j,i<j→j<n→f i=0∨f j=0)→sumN n f≤1
 | 0,_,_=>by simp[sumN]
 | n+1,h1,h2=>by
   have ih:=sumN_le_one (n:=n) (fun i hi=>h1 i (by omega)) (fun i j hij hj=>h2 i j hij (by omega))
   have h3:=h1 n (by omega)
   simp only[sumN]
   by_cases h0:f n=0
   ·omega
   ·have:sumN n f=0:=sumN_zero (fun i hi=>(h2 i n hi (by omega)).resolve_right h0)
    omega
theorem sumN_mono {f:Nat→Nat} {n:Nat} : ∀ {m:Nat},n≤m→sumN n f≤sumN m f
 | 0,h=>by obtain rfl:n=0:=by omega
           exact Nat.le_refl _
 | m+1,h=>by
   by_cases e:n=m+1
   ·subst e;exact Nat.le_refl _
   ·have:=sumN_mono (f:=f) (n:=n) (m:=m) (by omega)
    simp only[sumN]
    omega
theorem take_ok {n:Nat} : ∀ (ks:List Int) (T:List Bool),n≤T.length→(∀ k∈ks,0≤k∧k<n)→(∀ m,(ks.map Int.toNat).count m+b2n (T.getD m false)≤1)→∃ T',takeL n ks T=some T'
 | [],T,_,_,_=>⟨T,rfl⟩
 | k::r,T,hl,hk,hc=>by
   obtain⟨k0,k1⟩:=hk k (by simp)
   have h1:=hc k.toNat
   simp only[List.map_cons,List.count_cons_self] at h1
   have hT:T.getD k.toNat false=false:=by
    cases h:T.getD k.toNat false with
    | false=>rfl
    | true=>rw[h] at h1;simp[b2n] at h1
   rw[takeL,if_neg (by rw[hT];simp;omega)]
   refine take_ok r _ (by rw[List.length_set];exact hl) (fun q hq=>hk q (by simp[hq])) (fun m=>?_)
   have h2:=hc m
   rw[set_getD]
   simp only[List.map_cons] at h2
   by_cases e:k.toNat=m∧m<T.length
   ·rw[if_pos e]
    obtain⟨rfl,_⟩:=e
    rw[List.count_cons_self] at h2
    simp only[b2n,if_true]
    omega
   ·rw[if_neg e]
    have h3:(r.map Int.toNat).count m≤(k.toNat::r.map Int.toNat).count m:=List.count_le_count_cons ..
    omega
theorem nodes_all {O:List Nd} (hA:Ahead O) (hS:∀ (i:Nat) (x:Nd),O[i]? = some x→∃ t ls,wantL x.kind=some (t,ls)∧textL t x.text=true∧fitL ls (x.ks.map (kd O))=true∧0≤x.pl) (hc:∀ m,sumN O.length (fun i=>(kN O i).count m)≤1) : ∀ n,n≤O.length→∃ T,nodesL O n = .ok T
 | 0,_=>⟨_,rfl⟩
 | n+1,hn=>by
   obtain⟨T,hT⟩:=nodes_all hA hS hc n (by omega)
   have hx:O[n]? = some (O[n]'(by omega)):=List.getElem?_eq_getElem _
   generalize O[n]'(by omega)=x at hx
   obtain⟨t,ls,h1,h2,h3,h4⟩:=hS n x hx
   have hl:=nodes_length _ _ hT
   obtain⟨T',hT'⟩:=take_ok (n:=n) x.ks T (by omega) (hA n x hx) (fun m=>by
    rw[← nodes_count n T hT (by omega) m]
    have h5:=hc m
    have h6:=sumN_mono (f:=fun i=>(kN O i).count m) hn
    simp only[sumN,kN_some hx] at h6
    omega)
   refine⟨T',?_⟩
   rw[nodesL,hT]
   simp only[hx]
   rw[nodeE,h1]
   simp only
   rw[if_neg (by omega),hT']
   simp only
   rw[if_neg (by rw[h2];decide),if_neg (by rw[h3];decide)]
section
variable {L:List Nd} {T:List Bool} (hn:nodesL L L.length = .ok T) (hA:Ahead L) (S:Shp L) {p:Nat} {D:List Int} {O:List Nd} (B:BInv L p D O) (hp:p≤L.length)
include hn hA S B hp
theorem kid_stays {i:Nat} (hi:i<p) (hm:¬ Mk L i) {k:Nat} (hk:k∈kN L i) (h13:kdN L k≠13) : ¬ Mk L k:=fun h=>by
 rcases mk_kid hn hk h with h | h
 ·exact h13 h
 ·exact hm ⟨i,by omega,h,.inl rfl⟩
theorem kids_apart {i1 i2 k1 k2:Nat} (h1:i1<p) (h2:i2<p) (m1:¬ Mk L i1) (m2:¬ Mk L i2) (p1:kdN L i1≠29) (p2:kdN L i2≠29) (hk1:k1∈kN L i1) (hk2:k2∈kN L i2) (n1:kdN L k1≠13) (n2:kdN L k2≠13) (he:D.getD k1 0=D.getD k2 0) : k1=k2:=by
 have s1:=kid_stays hn hA S B hp h1 m1 hk1 n1
 have s2:=kid_stays hn hA S B hp h2 m2 hk2 n2
 have l1:=hA.kid hk1
 have l2:=hA.kid hk2
 rcases Nat.lt_trichotomy k1 k2 with h | h | h
 ·obtain⟨n,_,hn29,hkn⟩:=B.apart k1 k2 h (by omega) s1 s2 he
  rw[one_parent hn hkn hk1] at hn29
  exact absurd hn29 p1
 ·exact h
 ·obtain⟨n,_,hn29,hkn⟩:=B.apart k2 k1 h (by omega) s2 s1 he.symm
  rw[one_parent hn hkn hk2] at hn29
  exact absurd hn29 p2
theorem kid_from {j m:Nat} (h:m∈kN O j) : ∃ i k,i<p∧¬ Mk L i∧kdN L i≠29∧D.getD i 0=(j:Nat)∧k∈kN L i∧kdN L k≠13∧D.getD k 0=(m:Nat):=by
 obtain⟨y,q,hy,hq,rfl⟩:=mem_kN h
 obtain⟨i,x,h1,h2,h3,h4,h5,_,_,_,h9⟩:=B.org j y hy
 rw[h9] at hq
 obtain⟨k,hk,rfl⟩:=List.mem_map.1 hq
 obtain⟨hk1,hk2⟩:=List.mem_filter.1 hk
 have hkk:k.toNat∈kN L i:=by rw[kN_some h2];exact List.mem_map.2 ⟨k,hk1,rfl⟩
 have h13:kdN L k.toNat≠13:=by simpa using hk2
 refine⟨i,k.toNat,h1,h3,by rw[kdN_of h2];exact h4,h5,hkk,h13,?_⟩
 obtain⟨d,_,e,_⟩:=B.kd k.toNat (by have:=hA.kid hkk;omega) (kid_stays hn hA S B hp h1 h3 hkk h13)
 rw[e]
 rfl
theorem bare_once (m:Nat) : sumN O.length (fun j=>(kN O j).count m)≤1:=by
 refine sumN_le_one (fun j hj=>?_) (fun j1 j2 hlt hj2=>?_)
 ·have hy:O[j]? = some O[j]:=List.getElem?_eq_getElem hj
  generalize O[j]=y at hy
  obtain⟨i,x,h1,h2,h3,h4,h5,_,_,_,h9⟩:=B.org j y hy
  refine List.nodup_iff_count.1 ?_ m
  rw[kN_some hy,h9,List.map_map]
  have hnd:(x.ks.map Int.toNat).Nodup:=by rw[← kN_some h2];exact List.nodup_iff_count.2 (fun a=>count_le_one hn h2 a)
  unfold List.Nodup at hnd ⊢
  rw[List.pairwise_map] at hnd ⊢
  refine List.Pairwise.imp_of_mem ?_ (List.Pairwise.filter _ hnd)
  intro a b ha hb hne he
  obtain⟨ha1,ha2⟩:=List.mem_filter.1 ha
  obtain⟨hb1,hb2⟩:=List.mem_filter.1 hb
  have ka:a.toNat∈kN L i:=by rw[kN_some h2];exact List.mem_map.2 ⟨a,ha1,rfl⟩
  have kb:b.toNat∈kN L i:=by rw[kN_some h2];exact List.mem_map.2 ⟨b,hb1,rfl⟩
  have a13:kdN L a.toNat≠13:=by simpa using ha2
  have b13:kdN L b.toNat≠13:=by simpa using hb2
  have i29:kdN L i≠29:=by rw[kdN_of h2];exact h4
  obtain⟨da,_,ea,_⟩:=B.kd a.toNat (by have:=hA.kid ka;omega) (kid_stays hn hA S B hp h1 h3 ka a13)
  obtain⟨db,_,eb,_⟩:=B.kd b.toNat (by have:=hA.kid kb;omega) (kid_stays hn hA S B hp h1 h3 kb b13)
  simp only[Function.comp] at he
  rw[ea,eb] at he
  refine hne (kids_apart hn hA S B hp h1 h1 h3 h3 i29 i29 ka kb a13 b13 ?_)
  rw[ea,eb]
  have he2:da=db:=by simpa using he
  rw[he2]
 ·by_cases h1:(kN O j1).count m=0
  ·exact .inl h1
  ·by_cases h2:(kN O j2).count m=0
   ·exact .inr h2
   ·exfalso
    obtain⟨i1,k1,a1,a2,a3,a4,a5,a6,a7⟩:=kid_from hn hA S B hp (List.count_pos_iff.1 (by omega:0<(kN O j1).count m))
    obtain⟨i2,k2,b1,b2,b3,b4,b5,b6,b7⟩:=kid_from hn hA S B hp (List.count_pos_iff.1 (by omega:0<(kN O j2).count m))
    have e:=kids_apart hn hA S B hp a1 b1 a2 b2 a3 b3 a5 b5 a6 b6 (by rw[a7,b7])
    subst e
    have e2:=one_parent hn a5 b5
    subst e2
    rw[a4] at b4
    omega
end
end Go.Proofs.YtnmfcaahdeddnaaGreatDoor.T5
namespace Go.Proofs.YtnmfcaahdeddnaaGreatDoor.T5
open Go.RowKit
set_option linter.unusedVariables false
set_option linter.unusedSimpArgs false
structure Fwd (L:List Nd) (p:Nat) (D:List Int) (O:List Nd) : Prop where
 fw:∀ i x,i<p→L[i]? = some x→¬ Mk L i→x.kind≠29→∃ (d:Nat) (y:Nd),D.getD i 0=(d:Nat)∧O[d]? = some y∧y.kind=x.kind∧y.text=x.text∧y.pl=x.pl∧y.ks=(x.ks.filter (fun k=>kdN L k.toNat != 13)).map (fun k=>D.getD k.toNat 0)
 pr:∀ i x,i<p→L[i]? = some x→¬ Mk L i→x.kind=29→∃ z,x.ks = [z]∧D.getD i 0=D.getD z.toNat 0
theorem fwd {L:List Nd} {T:List Bool} (hn:nodesL L L.length = .ok T) (hA:Ahead L) (S:Shp L) : ∀ p,p≤L.length→Fwd L p (bareP L p).1 (bareP L p).2
 | 0,_=>⟨fun i x hi=>by omega,fun i x hi=>by omega⟩
 | p+1,hp=>by
   have F:=fwd hn hA S p (by omega)
   have B:=binv hn hA S p (by omega)
   have B' := binv hn hA S (p+1) hp
   have hpl:p<L.length:=by omega
   have hx:L[p]? = some L[p]:=List.getElem?_eq_getElem hpl
   generalize L[p]=x at hx
   have hl:=(bareP_len L p).1
   have hM:(markL L L.length).getD p false=decide (Mk L p):=mark_get L p hpl _
   rw[bareP,bareS,hx] at B' ⊢
   simp only[hM] at B' ⊢
   generalize (bareP L p).1=D at *
   generalize (bareP L p).2=O at *
   have g:∀ v i,i<p→(D.set p v).getD i 0=D.getD i 0:=fun v i hi=>by rw[set_getD,if_neg (by omega)]
   have gp:∀ v,(D.set p v).getD p 0=v:=fun v=>by rw[set_getD,if_pos ⟨rfl,by omega⟩]
   have gk:∀ v i x,i≤p→L[i]? = some x→(x.ks.filter (fun k=>kdN L k.toNat != 13)).map (fun k=>D.getD k.toNat 0)=(x.ks.filter (fun k=>kdN L k.toNat != 13)).map (fun k=>(D.set p v).getD k.toNat 0):=fun v i x hi hx=>List.map_congr_left (fun k hk=>by
    have h10:=hA i x hx k (List.mem_filter.1 hk).1
    rw[g v k.toNat (by omega)])
   have pr' : ∀ v i x,i<p→L[i]? = some x→¬ Mk L i→x.kind=29→∃ z,x.ks = [z]∧(D.set p v).getD i 0=(D.set p v).getD z.toNat 0:=fun v i x hi hx hm hk=>by
    obtain⟨z,hz,e⟩:=F.pr i x hi hx hm hk
    have:=hA i x hx z (by rw[hz];simp)
    exact⟨z,hz,by rw[g v i hi,g v z.toNat (by omega)];exact e⟩
   by_cases hm:Mk L p
   ·rw[if_pos (decide_eq_true hm)]
    refine⟨fun i x hi hx hmi hk=>?_,fun i x hi hx hmi hk=>?_⟩
    ·have hip:i≠p:=fun e=>hmi (e ▸ hm)
     obtain⟨d,y,h1,h2,h3,h4,h5,h6⟩:=F.fw i x (by omega) hx hmi hk
     exact⟨d,y,by simp only;rw[g _ i (by omega)];exact h1,h2,h3,h4,h5,by simp only;rw[← gk _ i x (by omega) hx];exact h6⟩
    ·have hip:i≠p:=fun e=>hmi (e ▸ hm)
     exact pr' _ i x (by omega) hx hmi hk
   ·rw[if_neg (by simp[hm])] at B' ⊢
    by_cases h29:x.kind=29
    ·rw[if_pos h29]
     refine⟨fun i y hi hy hmi hk=>?_,fun i y hi hy hmi hk=>?_⟩
     ·have hip:i≠p:=fun e=>by rw[e,hx] at hy;cases hy;exact hk h29
      obtain⟨d,z,h1,h2,h3,h4,h5,h6⟩:=F.fw i y (by omega) hy hmi hk
      exact⟨d,z,by simp only;rw[g _ i (by omega)];exact h1,h2,h3,h4,h5,by simp only;rw[← gk _ i y (by omega) hy];exact h6⟩
     ·by_cases hip:i=p
      ·subst hip
       rw[hx] at hy
       cases hy
       obtain⟨z,hz,_⟩:=S.one hx (by omega)
       have:=hA i x hx z (by rw[hz];simp)
       refine⟨z,hz,?_⟩
       simp only
       rw[gp,g _ z.toNat (by omega),hz]
       rfl
      ·exact pr' _ i y (by omega) hy hmi hk
    ·rw[if_neg h29] at B' ⊢
     refine⟨fun i y hi hy hmi hk=>?_,fun i y hi hy hmi hk=>?_⟩
     ·by_cases hip:i=p
      ·subst hip
       rw[hx] at hy
       cases hy
       obtain⟨j,x',h1,h2,h3,h4,h5,h6,h7,h8,h9⟩:=B'.org O.length _ List.getElem?_concat_length
       have hji:j=i:=by
        refine Decidable.byContradiction fun hne=>?_
        have hjl:j<i:=by omega
        obtain⟨d,z,e1,e2,_⟩:=B.kd j hjl h3
        have hd:=(List.getElem?_eq_some_iff.1 e2).1
        simp only at h5
        rw[g _ j hjl,e1] at h5
        omega
       subst hji
       rw[hx] at h2
       cases h2
       exact⟨O.length,_,h5,List.getElem?_concat_length,h6,h7,h8,h9⟩
      ·obtain⟨d,z,h1,h2,h3,h4,h5,h6⟩:=F.fw i y (by omega) hy hmi hk
       exact⟨d,z,by simp only;rw[g _ i (by omega)];exact h1,by simp only;rw[List.getElem?_append_left (List.getElem?_eq_some_iff.1 h2).1];exact h2,h3,h4,h5,by simp only;rw[← gk _ i y (by omega) hy];exact h6⟩
     ·have hip:i≠p:=fun e=>by rw[e,hx] at hy;cases hy;exact h29 hk
      exact pr' _ i y (by omega) hy hmi hk
structure Bt (L O:List Nd) (R:Nat→Nat) : Prop where
 fw:∀ i x,L[i]? = some x→¬ Mk L i→x.kind≠29→∃ y,O[R i]? = some y∧y.kind=x.kind∧y.text=x.text∧y.pl=x.pl∧y.ks=(x.ks.filter (fun k=>kdN L k.toNat != 13)).map (fun k=>((R k.toNat:Nat) : Int))
 pr:∀ i x,L[i]? = some x→¬ Mk L i→x.kind=29→∃ z,x.ks = [z]∧R i=R z.toNat
 org:∀ j y,O[j]? = some y→∃ i x,L[i]? = some x∧¬ Mk L i∧x.kind≠29∧R i=j
 last:0<O.length∧O.length≤L.length∧R (L.length-1)=O.length-1
 ahead:Ahead O
 bare:∀ y∈O,y.kind≠13∧y.kind≠29
 once:∀ m,sumN O.length (fun j=>(kN O j).count m)≤1
theorem root_stays {L:List Nd} {T:List Bool} (hn:nodesL L L.length = .ok T) (hA:Ahead L) (S:Shp L) {r:Nat} (h1:kdN L r=1) : ¬ Mk L r:=fun ⟨m,hm,h13,h⟩=>by
 rcases h with h | h
 ·rw[h,h13] at h1;exact absurd h1 (by decide)
 ·obtain⟨y,q,hy,hq,rfl⟩:=mem_kN h
  have:=S.rec_ hy (.inr ((kdN_of hy).symm.trans h13)) q hq
  rw[kd_kdN,h1] at this
  exact absurd this (by decide)
theorem kN_nb (O:List Nd) (n:Nat) : kN (O.map nb) n=kN O n:=by
 unfold kN
 rw[List.getElem?_map]
 cases O[n]? <;> rfl
theorem bt_of {L:List Nd} {pc:Nat} (hc:checkL L=(pc,0)) {O:List Nd} (hO:O.map nb=(bareP L L.length).2) : ∃ R,Bt L O R:=by
 obtain⟨hA,hp,h5,_,_⟩:=tree_once hc
 obtain⟨T,hn,_,_,h1,_⟩:=check_zero hc
 have S:=shp_of hn
 have F:=fwd hn hA S L.length (Nat.le_refl _)
 have B:=binv hn hA S L.length (Nat.le_refl _)
 have hah:=(bare_ahead L hA S L.length (Nat.le_refl _)).2
 have hon:=bare_once hn hA S B (Nat.le_refl _)
 have hnh:=no_hint L L.length (Nat.le_refl _)
 have hle:=(bareP_len L L.length).2
 have hlast:(bareP L L.length).1.getD (L.length-1) 0=(((bareP L L.length).2.length-1:Nat) : Int)∧0<(bareP L L.length).2.length:=by
  obtain⟨q,hq⟩ : ∃ q,L.length=q+1:=⟨L.length-1,by omega⟩
  have hx:L[q]? = some (L[q]'(by omega)):=List.getElem?_eq_getElem _
  generalize L[q]'(by omega)=x at hx
  have hk1:kdN L q=1:=by rw[hq] at h1;simpa [kd_kdN] using h1
  have hnm:=root_stays hn hA S hk1
  have hk:x.kind=1:=by rw[← kdN_of hx];exact hk1
  have hl:=(bareP_len L q).1
  have hM:(markL L L.length).getD q false=decide (Mk L q):=mark_get L q (by omega) _
  have e:bareP L L.length=bareS L (markL L L.length) q (bareP L q):=by
   have key:∀ m,m=q+1→bareP L m=bareS L (markL L L.length) q (bareP L q):=fun m hm=>by subst hm;rfl
   exact key _ hq
  rw[e,bareS,hx]
  simp only[hM]
  rw[if_neg (by simp[hnm]),if_neg (by omega),show L.length-1=q by omega]
  simp only
  rw[set_getD,if_pos ⟨rfl,by omega⟩]
  simp
 generalize hD:(bareP L L.length).1=D at *
 rw[← hO] at F B hah hon hnh hle hlast
 have hlen:(O.map nb).length=O.length:=List.length_map _
 have hR:∀ i (d:Nat),D.getD i 0=(d:Nat)→(D.getD i 0).toNat=d:=fun i d h=>by rw[h];rfl
 refine⟨fun i=>(D.getD i 0).toNat,?_,?_,?_,?_,?_,?_,?_⟩
 ·intro i x hx hm hk
  obtain⟨d,y,h1,h2,h3,h4,h5,h6⟩:=F.fw i x (List.getElem?_eq_some_iff.1 hx).1 hx hm hk
  rw[List.getElem?_map] at h2
  obtain⟨y0,hy0,rfl⟩:=Option.map_eq_some_iff.1 h2
  refine⟨y0,by rw[hR i d h1];exact hy0,h3,h4,h5,?_⟩
  have e:y0.ks=(nb y0).ks:=rfl
  rw[e,h6]
  refine List.map_congr_left (fun k hk=>?_)
  obtain⟨hk1,hk2⟩:=List.mem_filter.1 hk
  have hkn:k.toNat∈kN L i:=by rw[kN_some hx];exact List.mem_map.2 ⟨k,hk1,rfl⟩
  have hil:=(List.getElem?_eq_some_iff.1 hx).1
  obtain⟨dk,_,e1,_⟩:=B.kd k.toNat (by have:=hA.kid hkn;omega) (kid_stays hn hA S B (Nat.le_refl _) hil hm hkn (by simpa using hk2))
  rw[e1]
  rfl
 ·intro i x hx hm hk
  obtain⟨z,hz,e⟩:=F.pr i x (List.getElem?_eq_some_iff.1 hx).1 hx hm hk
  exact⟨z,hz,congrArg Int.toNat e⟩
 ·intro j y hy
  obtain⟨i,x,_,h2,h3,h4,h5,_⟩:=B.org j (nb y) (by rw[List.getElem?_map,hy];rfl)
  exact⟨i,x,h2,h3,h4,hR i j h5⟩
 ·rw[hlen] at hlast hle
  exact⟨hlast.2,hle,hR _ _ hlast.1⟩
 ·intro i y hy k hk
  exact hah i (nb y) (by rw[List.getElem?_map,hy];rfl) k hk
 ·intro y hy
  exact hnh (nb y) (List.mem_map.2 ⟨y,hy,rfl⟩)
 ·intro m
  have:=hon m
  rw[hlen] at this
  rw[sumN_congr (g:=fun j=>(kN O j).count m) (fun j _=>by rw[kN_nb])] at this
  exact this
theorem kid13 {L:List Nd} (S:Shp L) {n k:Nat} (hk:k∈kN L n) (h:kdN L k=13) : kdN L n=4:=by
 obtain⟨x,q,hx,hq,rfl⟩:=mem_kN hk
 rw[← kd_kdN] at h
 rw[kdN_of hx]
 have hr:=S.kr n x hx
 have hex:isEx (kd L q)=true→x.kind=4:=fun he=>by rw[h] at he;exact absurd he (by decide)
 have hc:x.kind=4∨x.kind=1∨(x.kind=2∨x.kind=13∨x.kind=22)∨x.kind=3∨(x.kind=5∨x.kind=9∨x.kind=10∨x.kind=11∨x.kind=18∨x.kind=20∨x.kind=24∨x.kind=25∨x.kind=27∨x.kind=29)∨(x.kind=19∨x.kind=21∨x.kind=6)∨x.kind=7∨x.kind=8∨x.kind=12∨(x.kind=14∨x.kind=15∨x.kind=16∨x.kind=17∨x.kind=23∨x.kind=26∨x.kind=28∨x.kind=30):=by omega
 rcases hc with hc | hc | hc | hc | hc | hc | hc | hc | hc | hc
 ·exact hc
 ·rcases S.prg hx hc q hq with e | e <;> rw[h] at e <;> exact absurd e (by decide)
 ·exact hex (S.many hx hc q hq)
 ·obtain⟨ps,b,e,h1,h2⟩:=S.fn hx hc
  rw[e] at hq
  rcases List.mem_append.1 hq with hq | hq
  ·have:=h1 q hq;rw[h] at this;exact absurd this (by decide)
  ·simp at hq;rw[hq,h2] at h;exact absurd h (by decide)
 ·obtain⟨a,e,h1⟩:=S.one hx hc
  rw[e] at hq;simp at hq;rw[hq] at hex;exact hex h1
 ·obtain⟨a,c,e,h1,h2⟩:=S.two hx hc
  rw[e] at hq;simp at hq
  rcases hq with hq | hq <;> rw[hq] at hex <;> exact hex (by assumption)
 ·obtain⟨a,c,d,e,h1,h2,h3⟩:=S.iff_ hx hc
  rw[e] at hq;simp at hq
  rcases hq with hq | hq | hq
  ·rw[hq] at hex;exact hex h1
  ·rw[hq,h2] at h;exact absurd h (by decide)
  ·rw[hq] at h;rw[h] at h3;exact absurd h3 (by decide)
 ·obtain⟨a,c,e,h1,h2⟩:=S.whl hx hc
  rw[e] at hq;simp at hq
  rcases hq with hq | hq
  ·rw[hq] at hex;exact hex h1
  ·rw[hq,h2] at h;exact absurd h (by decide)
 ·obtain⟨a,e,h1⟩:=S.do_ hx hc
  rw[e] at hq;simp at hq;rw[hq,h1] at h;exact absurd h (by decide)
 ·rw[S.nil hx hc] at hq;simp at hq
theorem kidEx {L:List Nd} (S:Shp L) {n k:Nat} (hn:isEx (kdN L n)=true) (hk:k∈kN L n) : isEx (kdN L k)=true:=by
 obtain⟨x,q,hx,hq,rfl⟩:=mem_kN hk
 rw[kdN_of hx] at hn
 rw[← kd_kdN]
 have hr:15≤x.kind∧x.kind≤30:=by simpa [isEx] using hn
 have hc:x.kind=22∨(x.kind=18∨x.kind=20∨x.kind=24∨x.kind=25∨x.kind=27∨x.kind=29)∨(x.kind=19∨x.kind=21)∨(x.kind=15∨x.kind=16∨x.kind=17∨x.kind=23∨x.kind=26∨x.kind=28∨x.kind=30):=by omega
 rcases hc with hc | hc | hc | hc
 ·exact S.many hx (by omega) q hq
 ·obtain⟨a,e,h1⟩:=S.one hx (by omega)
  rw[e] at hq;simp at hq;rw[hq];exact h1
 ·obtain⟨a,c,e,h1,h2⟩:=S.two hx (by omega)
  rw[e] at hq;simp at hq
  rcases hq with hq | hq <;> rw[hq] <;> assumption
 ·rw[S.nil hx (by omega)] at hq;simp at hq
theorem eachE_iff {g:Nat→JE Unit} : ∀ {l:List Nat},eachE g l = .ok ()↔∀ k∈l,g k = .ok ()
 | []=>by simp[eachE]
 | k::r=>by
   unfold eachE
   cases h:g k with
   | error e=>simp[h]
   | ok u=>simp[h,eachE_iff (l:=r)]
def U (L:List Nd) (i:Nat) : Prop:=i<L.length∧¬ Mk L i
theorem U.kid {L:List Nd} {T:List Bool} (hn:nodesL L L.length = .ok T) (hA:Ahead L) {i k:Nat} (h:U L i) (hk:k∈kN L i) (h13:kdN L k≠13) : U L k:=by
 refine⟨by have:=hA.kid hk;have:=h.1;omega,fun hm=>?_⟩
 rcases mk_kid hn hk hm with e | e
 ·exact h13 e
 ·exact h.2 ⟨i,h.1,e,.inl rfl⟩
theorem U.get {L:List Nd} {i:Nat} (h:U L i) : ∃ x,L[i]? = some x:=⟨_,List.getElem?_eq_getElem h.1⟩
def Nr (R:Nat→Nat) (m m' : NM) : Prop:=∀ k,m' k=(m k).map R
theorem Nr.nil {R:Nat→Nat} : Nr R NM.nil NM.nil:=fun _=>rfl
theorem Nr.put {R:Nat→Nat} {m m' : NM} (h:Nr R m m') (k:List UInt8) (n:Nat) : Nr R (m.put k n) (m'.put k (R n)):=fun j=>by
 unfold NM.put
 split
 ·rfl
 ·exact h j
theorem Nr.some {R:Nat→Nat} {m m' : NM} (h:Nr R m m') (k:List UInt8) : (m' k).isSome=(m k).isSome:=by rw[h k];cases m k <;> rfl
def Cr (R:Nat→Nat) : List NM→List NM→Prop
 | [],[]=>True
 | m::C,m'::C'=>Nr R m m'∧Cr R C C'
 | _,_=>False
theorem Cr.has {R:Nat→Nat} : ∀ {C C' : List NM},Cr R C C'→∀ k,hasE C' k=hasE C k
 | [],[],_,k=>rfl
 | m::C,m'::C',h,k=>by
   have ih:=Cr.has h.2 k
   unfold hasE at ih ⊢
   rw[List.any_cons,List.any_cons,h.1.some k,ih]
 | [],_::_,h,_=>h.elim
 | _::_,[],h,_=>h.elim
structure Er (L:List Nd) (R:Nat→Nat) (E E' : Env) : Prop where
 fl:Nr R E.fl E'.fl
 rc:Nr R E.rc E'.rc
 fn:Nr R E.fn E'.fn
 is:∀ k f,E.fn k=some f→U L f∧kdN L f=3
section
variable {L O:List Nd} {R:Nat→Nat} (b:Bt L O R)
include b
theorem Bt.node {i:Nat} (h:U L i) (h29:kdN L i≠29) : R i<O.length∧kdN O (R i)=kdN L i∧txN O (R i)=txN L i∧tbN O (R i)=tbN L i∧kN O (R i)=((kN L i).filter (fun k=>kdN L k != 13)).map R:=by
 obtain⟨x,hx⟩:=h.get
 obtain⟨y,hy,h1,h2,h3,h4⟩:=b.fw i x hx h.2 (by rw[← kdN_of hx];exact h29)
 refine⟨(List.getElem?_eq_some_iff.1 hy).1,by rw[kdN_of hy,kdN_of hx,h1],by unfold txN;rw[hx,hy];simp only[h2],by unfold tbN;rw[hx,hy];exact h2,?_⟩
 rw[kN_some hy,kN_some hx,h4,List.map_map,List.filter_map,List.map_map]
 rfl
theorem Bt.promote {i:Nat} (h:U L i) (h29:kdN L i=29) : ∃ z,kN L i = [z]∧R i=R z:=by
 obtain⟨x,hx⟩:=h.get
 obtain⟨z,hz,e⟩:=b.pr i x hx h.2 (by rw[← kdN_of hx];exact h29)
 exact⟨z.toNat,by rw[kN_some hx,hz];rfl,e⟩
theorem Bt.kids (S:Shp L) {i:Nat} (h:U L i) (h29:kdN L i≠29) (h4:kdN L i≠4) : kN O (R i)=(kN L i).map R:=by
 rw[(b.node h h29).2.2.2.2]
 congr 1
 refine List.filter_eq_self.2 (fun k hk=>?_)
 rw[bne_iff_ne]
 exact fun e=>h4 (kid13 S hk e)
theorem expr_bare {T:List Bool} (hn:nodesL L L.length = .ok T) (hA:Ahead L) (S:Shp L) {E E' : Env} (hE:Er L R E E') {C C' : List NM} (hC:Cr R C C') : ∀ i,U L i→isEx (kdN L i)=true→exprE L E C i = .ok ()→exprE O E' C' (R i) = .ok ():=by
 intro i
 induction i using Nat.strongRecOn with
 | _ i ih =>
   intro hU hx h
   rw[exprE_eq hA] at h
   cases hs:selfE L E C i with
   | error e=>rw[hs] at h;cases h
   | ok u =>
     rw[hs] at h
     have hk:=eachE_iff.1 h
     have hx13:∀ k∈kN L i,kdN L k≠13:=fun k hk e=>by
      have:=kidEx S hx hk
      rw[e] at this
      exact absurd this (by decide)
     by_cases h29:kdN L i=29
     ·obtain⟨z,hz,e⟩:=b.promote hU h29
      have hzm:z∈kN L i:=by rw[hz];simp
      rw[e]
      exact ih z (hA.kid hzm) (hU.kid hn hA hzm (hx13 z hzm)) (kidEx S hx hzm) (hk z hzm)
     ·obtain⟨_,n1,n2,_,_⟩:=b.node hU h29
      have nk:=b.kids S hU h29 (fun e=>by rw[e] at hx;exact absurd hx (by decide))
      rw[exprE_eq b.ahead]
      have hs' : selfE O E' C' (R i) = .ok ():=by
       unfold selfE at hs ⊢
       rw[n1,n2]
       by_cases c1:kdN L i=17
       ·rw[if_pos c1] at hs ⊢
        rw[hC.has]
        split at hs
        ·rw[if_pos (by assumption)]
        ·cases hs
       rw[if_neg c1] at hs ⊢
       by_cases c2:kdN L i=20
       ·rw[if_pos c2] at hs ⊢
        rw[hE.fl.some]
        split at hs
        ·rw[if_pos (by assumption)]
        ·cases hs
       rw[if_neg c2] at hs ⊢
       by_cases c3:kdN L i=23
       ·rw[if_pos c3] at hs ⊢
        rw[hE.rc.some]
        split at hs
        ·rw[if_pos (by assumption)]
        ·cases hs
       rw[if_neg c3] at hs ⊢
       by_cases c4:kdN L i=22
       ·rw[if_pos c4] at hs ⊢
        rw[hE.fn]
        cases hf:E.fn (txN L i) with
        | none=>rw[hf] at hs;cases hs
        | some f =>
          rw[hf] at hs
          obtain⟨uf,kf⟩:=hE.is _ _ hf
          have nf:=b.kids S uf (by rw[kf];decide) (by rw[kf];decide)
          simp only[Option.map_some] at hs ⊢
          rw[nk,nf,List.length_map,List.length_map]
          split at hs
          ·rw[if_pos (by assumption)]
          ·cases hs
       rw[if_neg c4] at hs ⊢
      rw[hs',nk]
      simp only
      refine eachE_iff.2 (fun k hk'=>?_)
      obtain⟨q,hq,rfl⟩:=List.mem_map.1 hk'
      exact ih q (hA.kid hq) (hU.kid hn hA hq (hx13 q hq)) (kidEx S hx hq) (hk q hq)
theorem exprs_bare {T:List Bool} (hn:nodesL L L.length = .ok T) (hA:Ahead L) (S:Shp L) {E E' : Env} (hE:Er L R E E') {C C' : List NM} (hC:Cr R C C') {l:List Nat} (hl:∀ k∈l,U L k∧isEx (kdN L k)=true) (h:eachE (exprE L E C) l = .ok ()) : eachE (exprE O E' C') (l.map R) = .ok ():=by
 refine eachE_iff.2 (fun k hk=>?_)
 obtain⟨q,hq,rfl⟩:=List.mem_map.1 hk
 exact expr_bare b hn hA S hE hC q (hl q hq).1 (hl q hq).2 (eachE_iff.1 h q hq)
end
theorem loop_none {O:List Nd} (h:∀ y∈O,y.kind≠13∧y.kind≠29) (E:Env) (C:List NM) (l:List Nat) : loopE O E C l=blockE O E C l:=by
 cases l with
 | nil=>rfl
 | cons k r =>
   have hne:¬ kdN O k=13:=fun e=>by
    obtain⟨y,hy,hk⟩:=kdN_some e (by decide)
    exact (h y (List.mem_of_getElem? hy)).1 hk
   simp only[loopE,if_neg hne]
theorem stmt13 {L:List Nd} (hA:Ahead L) {E:Env} {C:List NM} {n:Nat} {m m1:NM} (h:stmtE L E C n m = .ok m1) : kdN L n≠13:=fun e=>by
 rw[stmtE_eq hA,if_neg (by omega),if_neg (by omega),if_neg (by omega),if_pos e] at h
 cases h
section
variable {L O:List Nd} {R:Nat→Nat} (b:Bt L O R) {T:List Bool} (hn:nodesL L L.length = .ok T) (hA:Ahead L) (S:Shp L) {E E' : Env} (hE:Er L R E E')
def StP (L O:List Nd) (R:Nat→Nat) (E E' : Env) (i:Nat) : Prop:=∀ C C' m m' m1,Cr R C C'→Nr R m m'→stmtE L E C i m = .ok m1→∃ m1',stmtE O E' C' (R i) m' = .ok m1'∧Nr R m1 m1'
include hA in
theorem seq_bare:∀ (l:List Nat),(∀ k∈l,kdN L k≠13→StP L O R E E' k)→∀ {C C' : List NM} {m m' : NM},Cr R C C'→Nr R m m'→seqE (stmtE L E C) l m = .ok ()→seqE (stmtE O E' C') ((l.filter (fun k=>kdN L k != 13)).map R) m' = .ok ()
 | [],_,C,C',m,m',_,_,_=>rfl
 | k::r,H,C,C',m,m',hC,hm,h=>by
   unfold seqE at h
   cases hs:stmtE L E C k m with
   | error e=>rw[hs] at h;cases h
   | ok m1 =>
     rw[hs] at h
     have h13:=stmt13 hA hs
     obtain⟨m1',e1,hm1⟩:=H k (by simp) h13 C C' m m' m1 hC hm hs
     rw[List.filter_cons_of_pos (by rw[bne_iff_ne];exact h13),List.map_cons]
     unfold seqE
     rw[e1]
     exact seq_bare r (fun j hj=>H j (by simp[hj])) hC hm1 h
include b hn hA S hE
theorem stmt_bare:∀ i,U L i→isSt (kdN L i)=true→StP L O R E E' i:=by
 intro i
 induction i using Nat.strongRecOn with
 | _ i ih =>
   intro hU hst C C' m m' m1 hC hm h
   have hr:5≤kdN L i∧kdN L i≤13:=by simpa [isSt] using hst
   have h13:=stmt13 hA h
   have hCm:Cr R (m::C) (m'::C'):=⟨hm,hC⟩
   obtain⟨x,hx⟩:=hU.get
   have hxk:=kdN_of hx
   obtain⟨_,n1,n2,_,_⟩:=b.node hU (by omega)
   have nk:=b.kids S hU (by omega) (by omega)
   have hkid:∀ k∈kN L i,kdN L k≠13:=fun k hk e=>by have:=kid13 S hk e;omega
   -- blocks
   have blk:∀ c∈kN L i,(kdN L c=4∨kdN L c=14)→blockE L E (m::C) (kN L c) = .ok ()→blockE O E' (m'::C') (kN O (R c)) = .ok ():=fun c hc hk hb=>by
    have hUc:=hU.kid hn hA hc (hkid c hc)
    rw[(b.node hUc (by omega)).2.2.2.2]
    refine seq_bare hA (kN L c) (fun k hk' hk13=>?_) hCm Nr.nil hb
    refine ih k (by have:=hA.kid hk';have:=hA.kid hc;omega) (hUc.kid hn hA hk' hk13) ?_
    obtain⟨y,q,hy,hq,rfl⟩:=mem_kN hk'
    rcases hk with hk | hk
    ·rw[← kd_kdN];exact S.blk hy (by rw[← kdN_of hy];exact hk) q hq
    ·rw[S.nil hy (.inl (by rw[← kdN_of hy];exact hk))] at hq;simp at hq
   rw[stmtE_eq hA] at h
   rw[stmtE_eq b.ahead,n1,n2]
   by_cases c5:kdN L i=5
   ·rw[if_pos c5] at h ⊢
    rw[hCm.has]
    split at h
    ·cases h
    ·rename_i hno
     rw[if_neg hno]
     cases he:eachE (exprE L E (m::C)) (kN L i) with
     | error e=>rw[he] at h;cases h
     | ok u =>
       rw[he] at h
       cases h
       have:=exprs_bare b hn hA S hE hCm (l:=kN L i) (fun k hk=>⟨hU.kid hn hA hk (hkid k hk),by
        obtain⟨y,q,hy,hq,rfl⟩:=mem_kN hk
        rw[hx] at hy;cases hy
        obtain⟨a,e,h1⟩:=S.one hx (by omega)
        rw[e] at hq;simp at hq;rw[hq];exact h1⟩) he
       rw[nk,this]
       exact⟨_,rfl,hm.put _ _⟩
   rw[if_neg c5] at h ⊢
   by_cases c7:kdN L i=7
   ·rw[if_pos c7] at h ⊢
    obtain⟨ka,kb,kc,ek,h1,h2,h3⟩:=S.iff_ hx (by omega)
    have ekL:kN L i = [ka.toNat,kb.toNat,kc.toNat]:=by rw[kN_some hx,ek];rfl
    have ekO:kN O (R i) = [R ka.toNat,R kb.toNat,R kc.toNat]:=by rw[nk,ekL];rfl
    have q0:kid L i 0=ka.toNat:=by unfold kid;rw[ekL];rfl
    have q1:kid L i 1=kb.toNat:=by unfold kid;rw[ekL];rfl
    have q2:kid L i 2=kc.toNat:=by unfold kid;rw[ekL];rfl
    have p0:kid O (R i) 0=R ka.toNat:=by unfold kid;rw[ekO];rfl
    have p1:kid O (R i) 1=R kb.toNat:=by unfold kid;rw[ekO];rfl
    have p2:kid O (R i) 2=R kc.toNat:=by unfold kid;rw[ekO];rfl
    rw[q0,q1,q2] at h
    rw[p0,p1,p2]
    cases e0:exprE L E (m::C) ka.toNat with
    | error e=>rw[e0] at h;cases h
    | ok u0 =>
      rw[e0] at h
      simp only at h
      cases e1:blockE L E (m::C) (kN L kb.toNat) with
      | error e=>rw[e1] at h;cases h
      | ok u1 =>
        rw[e1] at h
        simp only at h
        cases e2:blockE L E (m::C) (kN L kc.toNat) with
        | error e=>rw[e2] at h;cases h
        | ok u2 =>
          rw[e2] at h
          cases h
          have ma:ka.toNat∈kN L i:=by rw[ekL];simp
          have mb:kb.toNat∈kN L i:=by rw[ekL];simp
          have mc:kc.toNat∈kN L i:=by rw[ekL];simp
          rw[expr_bare b hn hA S hE hCm _ (hU.kid hn hA ma (hkid _ ma)) h1 e0,blk _ mb (.inl h2) e1,blk _ mc h3 e2]
          exact⟨_,rfl,hm⟩
   rw[if_neg c7] at h ⊢
   by_cases c8:kdN L i=8
   ·rw[if_pos c8] at h ⊢
    obtain⟨ka,kb,ek,h1,h2⟩:=S.whl hx (by omega)
    have ekL:kN L i = [ka.toNat,kb.toNat]:=by rw[kN_some hx,ek];rfl
    have ekO:kN O (R i) = [R ka.toNat,R kb.toNat]:=by rw[nk,ekL];rfl
    have q0:kid L i 0=ka.toNat:=by unfold kid;rw[ekL];rfl
    have q1:kid L i 1=kb.toNat:=by unfold kid;rw[ekL];rfl
    have p0:kid O (R i) 0=R ka.toNat:=by unfold kid;rw[ekO];rfl
    have p1:kid O (R i) 1=R kb.toNat:=by unfold kid;rw[ekO];rfl
    rw[q0,q1] at h
    rw[p0,p1,loop_none b.bare]
    have ma:ka.toNat∈kN L i:=by rw[ekL];simp
    have mb:kb.toNat∈kN L i:=by rw[ekL];simp
    have hUb:=hU.kid hn hA mb (hkid _ mb)
    cases e0:exprE L E (m::C) ka.toNat with
    | error e=>rw[e0] at h;cases h
    | ok u0 =>
      rw[e0] at h
      simp only at h
      cases e1:loopE L E (m::C) (kN L kb.toNat) with
      | error e=>rw[e1] at h;cases h
      | ok u1 =>
        rw[e1] at h
        cases h
        have key:blockE O E' (m'::C') (kN O (R kb.toNat)) = .ok ():=by
         cases hl:kN L kb.toNat with
         | nil =>
           rw[(b.node hUb (by rw[← kd_kdN,h2];decide)).2.2.2.2,hl]
           rfl
         | cons k r =>
           rw[hl] at e1
           simp only[loopE] at e1
           by_cases hk:kdN L k=13
           ·rw[if_pos hk] at e1
            split at e1
            ·cases e1
            ·rw[(b.node hUb (by rw[← kd_kdN,h2];decide)).2.2.2.2,hl,List.filter_cons_of_neg (by simp[hk])]
             refine seq_bare hA r (fun j hj hj13=>?_) hCm Nr.nil e1
             have hjm:j∈kN L kb.toNat:=by rw[hl];simp[hj]
             refine ih j (by have:=hA.kid hjm;have:=hA.kid mb;omega) (hUb.kid hn hA hjm hj13) ?_
             obtain⟨y,q,hy,hq,rfl⟩:=mem_kN hjm
             rw[← kd_kdN];exact S.blk hy (by rw[← kdN_of hy,← kd_kdN];exact h2) q hq
           ·rw[if_neg hk] at e1
            refine blk _ mb (.inl h2) ?_
            rw[hl]
            exact e1
        rw[expr_bare b hn hA S hE hCm _ (hU.kid hn hA ma (hkid _ ma)) h1 e0,key]
        exact⟨_,rfl,hm⟩
   rw[if_neg c8] at h ⊢
   rw[if_neg h13] at h ⊢
   cases he:eachE (exprE L E (m::C)) (kN L i) with
   | error e=>rw[he] at h;cases h
   | ok u =>
     rw[he] at h
     cases h
     have:=exprs_bare b hn hA S hE hCm (l:=kN L i) (fun k hk=>⟨hU.kid hn hA hk (hkid k hk),by
      obtain⟨y,q,hy,hq,rfl⟩:=mem_kN hk
      rw[hx] at hy;cases hy
      rw[← kd_kdN]
      have hc:x.kind=6∨(x.kind=9∨x.kind=10∨x.kind=11)∨x.kind=12:=by omega
      rcases hc with hc | hc | hc
      ·obtain⟨a,d,e,h1,h2⟩:=S.two hx (by omega)
       rw[e] at hq;simp at hq
       rcases hq with hq | hq <;> rw[hq] <;> assumption
      ·obtain⟨a,e,h1⟩:=S.one hx (by omega)
       rw[e] at hq;simp at hq;rw[hq];exact h1
      ·obtain⟨a,e,h1⟩:=S.do_ hx hc
       rw[e] at hq;simp at hq;rw[hq,h1];rfl⟩) he
     rw[nk,this]
     exact⟨_,rfl,hm⟩
end
def keepB (L:List Nd) (j:Nat) : Bool:=!(markL L L.length).getD j false&&kdN L j != 29
theorem keep_yes {L:List Nd} {j:Nat} (h:U L j) (h29:kdN L j≠29) : keepB L j=true:=by
 unfold keepB
 rw[mark_get L j h.1]
 simp[h.2,h29]
theorem keep_mark {L:List Nd} {j:Nat} (hj:j<L.length) (h:Mk L j) : keepB L j=false:=by
 unfold keepB
 rw[mark_get L j hj]
 simp[h]
theorem keep_29 {L:List Nd} {j:Nat} (h:kdN L j=29) : keepB L j=false:=by
 unfold keepB
 simp[h]
theorem wn_d {L:List Nd} (hA:Ahead L) : ∀ n d d',wn L n d=wn L n d' := by
 intro n
 induction n using Nat.strongRecOn with
 | _ n ih =>
   intro d d'
   rw[wn_eq hA,wn_eq hA]
   congr 1
   exact flat_congr (fun k hk=>ih k (hA.kid hk) _ _)
theorem mk_kind {L:List Nd} (S:Shp L) {j:Nat} (h:Mk L j) : kdN L j=13∨kdN L j=17:=by
 obtain⟨m,hm,h13,e | e⟩:=h
 ·rw[e];exact .inl h13
 ·obtain⟨y,q,hy,hq,rfl⟩:=mem_kN e
  exact .inr (S.rec_ hy (.inr ((kdN_of hy).symm.trans h13)) q hq)
section
variable {L O:List Nd} {R:Nat→Nat} (b:Bt L O R) {T:List Bool} (hn:nodesL L L.length = .ok T) (hA:Ahead L) (S:Shp L)
include b hn hA S
theorem walk_bare:∀ i,U L i→∀ d d',wn O (R i) d' = ((wn L i d).filter (keepB L)).map R:=by
 intro i
 induction i using Nat.strongRecOn with
 | _ i ih =>
   intro hU d d'
   rw[wn_eq hA]
   by_cases h29:kdN L i=29
   ·obtain⟨z,hz,e⟩:=b.promote hU h29
    have hzm:z∈kN L i:=by rw[hz];simp
    have h13:kdN L z≠13:=fun e=>by have:=kid13 S hzm e;omega
    rw[List.filter_cons_of_neg (by rw[keep_29 h29];simp),hz,e]
    simp only[List.flatMap_cons,List.flatMap_nil,List.append_nil]
    exact ih z (hA.kid hzm) (hU.kid hn hA hzm h13) _ _
   ·rw[List.filter_cons_of_pos (keep_yes hU h29),List.map_cons,wn_eq b.ahead]
    congr 1
    rw[(b.node hU h29).2.2.2.2]
    have key:∀ l:List Nat,(∀ k∈l,k∈kN L i)→((l.filter (fun k=>kdN L k != 13)).map R).flatMap (fun k=>wn O k (d' + 1))=((l.flatMap (fun k=>wn L k (d+1))).filter (keepB L)).map R:=by
     intro l
     induction l with
     | nil=>intro _;rfl
     | cons k r ihl =>
       intro hl
       have hk:=hl k (by simp)
       have ihr:=ihl (fun j hj=>hl j (by simp[hj]))
       rw[List.flatMap_cons,List.filter_append,List.map_append,← ihr]
       by_cases h13:kdN L k=13
       ·rw[List.filter_cons_of_neg (by simp[h13])]
        have hkl:k<L.length:=by have:=hA.kid hk;have:=hU.1;omega
        have e:(wn L k (d+1)).filter (keepB L) = []:=by
         rw[wn_d hA k (d+1) 0,wn_merge hA S h13]
         refine List.filter_eq_nil_iff.2 (fun j hj=>?_)
         have hjl:j<L.length:=by
          rcases List.mem_cons.1 hj with e | e
          ·omega
          ·have:=hA.kid e;omega
         rw[keep_mark hjl ⟨k,hkl,h13,List.mem_cons.1 hj⟩]
         simp
        rw[e]
        rfl
       ·rw[List.filter_cons_of_pos (by rw[bne_iff_ne];exact h13),List.map_cons,List.flatMap_cons,ih k (hA.kid hk) (hU.kid hn hA hk h13) (d+1) (d' + 1)]
    exact key (kN L i) (fun k hk=>hk)
end
structure Dr (R:Nat→Nat) (d d' : Ds) : Prop where
 so:d'.sorts.length=d.sorts.length
 fn:d'.fns.map (fun f=>(f.params,f.vars.length,f.node))=d.fns.map (fun f=>(f.params,f.vars.length,R f.node))
 mn:d'.main=d.main
 mg:d'.merges = []
theorem addVar_key {R:Nat→Nat} (v v' : ByteArray) : ∀ (l l' : List FnD),l'.map (fun f=>(f.params,f.vars.length,f.node))=l.map (fun f=>(f.params,f.vars.length,R f.node))→(addVar v' l').map (fun f=>(f.params,f.vars.length,f.node))=(addVar v l).map (fun f=>(f.params,f.vars.length,R f.node))
 | [],[],_=>rfl
 | [],_::_,h=>by simp at h
 | _::_,[],h=>by simp at h
 | [f],[f'],h=>by
   simp only[List.map_cons,List.map_nil,List.cons.injEq,Prod.mk.injEq,and_true] at h
   simp only[addVar,List.map_cons,List.map_nil,List.length_append,List.length_singleton,h]
 | [_],_::_::_,h=>by simp at h
 | _::_::_,[_],h=>by simp at h
 | f::g::r,f'::g'::r',h=>by
   have h' := h
   rw[List.map_cons (f:=fun f:FnD=>(f.params,f.vars.length,f.node)) (a:=f'),List.map_cons (f:=fun f:FnD=>(f.params,f.vars.length,R f.node)) (a:=f),List.cons.injEq] at h'
   unfold addVar
   rw[List.map_cons,List.map_cons,h'.1,addVar_key v v' (g::r) (g'::r') h'.2]
section
variable {L O:List Nd} {R:Nat→Nat} (b:Bt L O R) (S:Shp L)
include b S
theorem step_bare {d d' : Ds} (h:Dr R d d') {j:Nat} (hU:U L j) (h29:kdN L j≠29) : Dr R (stepD L d j) (stepD O d' (R j)):=by
 obtain⟨_,n1,n2,_,_⟩:=b.node hU h29
 have h13:kdN L j≠13:=fun e=>hU.2 ⟨j,hU.1,e,.inl rfl⟩
 have hfl:d'.fns.length=d.fns.length:=by have:=congrArg List.length h.fn;simpa using this
 unfold stepD
 rw[n1,n2]
 by_cases c2:kdN L j=2
 ·rw[if_pos c2,if_pos c2]
  exact⟨by simp[h.so],h.fn,h.mn,h.mg⟩
 rw[if_neg c2,if_neg c2]
 by_cases c3:kdN L j=3
 ·rw[if_pos c3,if_pos c3]
  have nk:=b.kids S hU h29 (by omega)
  refine⟨h.so,?_,?_,h.mg⟩
  ·simp only[List.map_append,List.map_cons,List.map_nil,h.fn,nk,List.length_map,List.length_take]
  ·simp only[hfl,h.mn]
 rw[if_neg c3,if_neg c3]
 by_cases c5:kdN L j=5
 ·rw[if_pos c5,if_pos c5]
  exact⟨h.so,addVar_key _ _ _ _ h.fn,h.mn,h.mg⟩
 rw[if_neg c5,if_neg c5,if_neg h13,if_neg h13]
 exact h
theorem fold_bare:∀ (W:List Nat),(∀ j∈W,j<L.length)→∀ {d d' : Ds},Dr R d d'→Dr R (W.foldl (stepD L) d) (((W.filter (keepB L)).map R).foldl (stepD O) d')
 | [],_,d,d',h=>h
 | j::r,hW,d,d',h=>by
   have hj:=hW j (by simp)
   by_cases hk:keepB L j=true
   ·rw[List.filter_cons_of_pos hk,List.map_cons,List.foldl_cons,List.foldl_cons]
    have hU:U L j:=⟨hj,fun e=>by rw[keep_mark hj e] at hk;cases hk⟩
    have h29:kdN L j≠29:=fun e=>by rw[keep_29 e] at hk;cases hk
    exact fold_bare r (fun q hq=>hW q (by simp[hq])) (step_bare b S h hU h29)
   ·rw[List.filter_cons_of_neg hk,List.foldl_cons]
    refine fold_bare r (fun q hq=>hW q (by simp[hq])) ?_
    have hc:kdN L j=13∨kdN L j=17∨kdN L j=29:=by
     by_cases h29:kdN L j=29
     ·exact .inr (.inr h29)
     ·have hm:Mk L j:=Decidable.byContradiction fun hm=>hk (keep_yes ⟨hj,hm⟩ h29)
      exact (mk_kind S hm).imp id .inl
    unfold stepD
    rw[if_neg (by omega),if_neg (by omega),if_neg (by omega)]
    split
    ·exact⟨h.so,h.fn,h.mn,h.mg⟩
    ·exact h
end
theorem desc_wn {L:List Nd} {pc:Nat} (hc:checkL L=(pc,0)) : descL L=(wn L (L.length-1) 0).foldl (stepD L) ⟨[],[],0,[]⟩:=by
 unfold descL treeW wn
 rw[hc,if_pos rfl,List.foldl_map]
theorem desc_bare {L O:List Nd} {R:Nat→Nat} (b:Bt L O R) {pc po:Nat} (hc:checkL L=(pc,0)) (ho:checkL O=(po,0)) : Dr R (descL L) (descL O):=by
 obtain⟨hA,hp,_,_,_⟩:=tree_once hc
 obtain⟨T,hn,_,_,h1,_⟩:=check_zero hc
 have S:=shp_of hn
 have hk1:kdN L (L.length-1)=1:=by simpa [kd_kdN] using h1
 have hU:U L (L.length-1):=⟨by omega,root_stays hn hA S hk1⟩
 rw[desc_wn hc,desc_wn ho,← b.last.2.2,walk_bare b hn hA S _ hU 0 0]
 exact fold_bare b S _ (fun j hj=>by have:=wn_le hA _ _ j hj;omega) ⟨rfl,rfl,rfl,rfl⟩
section
variable {L O:List Nd} {R:Nat→Nat} (b:Bt L O R)
include b
theorem dec_bare {n:Nat} (hU:U L n) (h29:kdN L n≠29) {m m' m1:NM} (hm:Nr R m m') (h:decE L n m = .ok m1) : ∃ m1',decE O (R n) m' = .ok m1'∧Nr R m1 m1' := by
 unfold decE at h ⊢
 rw[(b.node hU h29).2.2.1,hm]
 cases hq:m (txN L n) with
 | some f=>rw[hq] at h;cases h
 | none =>
   rw[hq] at h
   cases h
   exact⟨_,rfl,hm.put _ _⟩
theorem decs_bare:∀ (l:List Nat),(∀ k∈l,U L k∧kdN L k≠29)→∀ {m m' m1:NM},Nr R m m'→decsE L l m = .ok m1→∃ m1',decsE O (l.map R) m' = .ok m1'∧Nr R m1 m1'
 | [],_,m,m',m1,hm,h=>by cases h;exact⟨_,rfl,hm⟩
 | k::r,H,m,m',m1,hm,h=>by
   unfold decsE at h
   cases hd:decE L k m with
   | error e=>rw[hd] at h;cases h
   | ok m2 =>
     rw[hd] at h
     obtain⟨m2',e2,hm2⟩:=dec_bare b (H k (by simp)).1 (H k (by simp)).2 hm hd
     rw[List.map_cons]
     unfold decsE
     rw[e2]
     exact decs_bare r (fun j hj=>H j (by simp[hj])) hm2 h
variable {T:List Bool} (hn:nodesL L L.length = .ok T) (hA:Ahead L) (S:Shp L)
include hn hA S
theorem recs_bare:∀ (l:List Nat),(∀ k∈l,U L k∧(kdN L k=2∨kdN L k=3))→∀ {rc rc' fl fl' : NM} {r1:NM×NM},Nr R rc rc'→Nr R fl fl'→recsE L l rc fl = .ok r1→∃ r1',recsE O (l.map R) rc' fl' = .ok r1'∧Nr R r1.1 r1'.1∧Nr R r1.2 r1'.2
 | [],_,rc,rc',fl,fl',r1,h1,h2,h=>by cases h;exact⟨_,rfl,h1,h2⟩
 | k::r,H,rc,rc',fl,fl',r1,h1,h2,h=>by
   obtain⟨hU,hk⟩:=H k (by simp)
   have h29:kdN L k≠29:=by omega
   have nk:=b.kids S hU h29 (by omega)
   unfold recsE at h
   rw[List.map_cons]
   unfold recsE
   rw[(b.node hU h29).2.1]
   by_cases c2:kdN L k=2
   ·rw[if_pos c2] at h ⊢
    cases hd:decE L k rc with
    | error e=>rw[hd] at h;cases h
    | ok rc1 =>
      rw[hd] at h
      obtain⟨rc1',e1,hr1⟩:=dec_bare b hU h29 h1 hd
      rw[e1]
      simp only at h ⊢
      rw[nk,List.length_map]
      split at h
      ·cases h
      ·rename_i hlen
       rw[if_neg hlen]
       cases hs:decsE L (kN L k) fl with
       | error e=>rw[hs] at h;cases h
       | ok fl1 =>
         rw[hs] at h
         obtain⟨fl1',e2,hf1⟩:=decs_bare b (kN L k) (fun j hj=>by
          have h13:kdN L j≠13:=fun e=>by have:=kid13 S hj e;omega
          refine⟨hU.kid hn hA hj h13,?_⟩
          obtain⟨y,q,hy,hq,rfl⟩:=mem_kN hj
          have:=S.rec_ hy (.inl ((kdN_of hy).symm.trans c2)) q hq
          rw[kd_kdN] at this
          omega) h2 hs
         rw[e2]
         exact recs_bare r (fun j hj=>H j (by simp[hj])) hr1 hf1 h
   ·rw[if_neg c2] at h ⊢
    exact recs_bare r (fun j hj=>H j (by simp[hj])) h1 h2 h
theorem fun_bare {E E' : Env} (hE:Er L R E E') {f f' : FnD} (hf:U L f.node∧kdN L f.node=3∧f.params=(kN L f.node).length-1) (hk:(f'.params,f'.vars.length,f'.node)=(f.params,f.vars.length,R f.node)) (h:funE L E f = .ok ()) : funE O E' f' = .ok ():=by
 obtain⟨hU,h3,hp⟩:=hf
 simp only[Prod.mk.injEq] at hk
 obtain⟨k1,k2,k3⟩:=hk
 have nk:=b.kids S hU (by omega) (by omega)
 unfold funE at h ⊢
 rw[k1,k2,k3]
 split at h
 ·cases h
 ·rename_i hv
  rw[if_neg hv]
  cases hd:decsE L ((kN L f.node).take ((kN L f.node).length-1)) NM.nil with
  | error e=>rw[hd] at h;cases h
  | ok m =>
    rw[hd] at h
    obtain⟨x,hx⟩:=hU.get
    obtain⟨ps,bk,ek,hps,hbk⟩:=S.fn hx ((kdN_of hx).symm.trans h3)
    have ekL:kN L f.node=ps.map Int.toNat++[bk.toNat]:=by rw[kN_some hx,ek,List.map_append];rfl
    have hall:∀ k∈kN L f.node,U L k∧kdN L k≠29:=fun k hk=>by
     have h13:kdN L k≠13:=fun e=>by have:=kid13 S hk e;omega
     refine⟨hU.kid hn hA hk h13,?_⟩
     rw[ekL] at hk
     rcases List.mem_append.1 hk with hk | hk
     ·obtain⟨q,hq,rfl⟩:=List.mem_map.1 hk
      rw[← kd_kdN,hps q hq];decide
     ·simp at hk;rw[hk,← kd_kdN,hbk];decide
    obtain⟨m',e1,hm⟩:=decs_bare b _ (fun k hk=>hall k (List.mem_of_mem_take hk)) Nr.nil hd
    rw[nk,List.length_map,← List.map_take,e1]
    simp only
    have q1:kid L f.node f.params=bk.toNat:=by unfold kid;rw[hp,ekL];simp
    have q2:kid O (R f.node) f.params=R bk.toNat:=by unfold kid;rw[nk,hp,ekL];simp
    rw[q1] at h
    rw[q2]
    have hbm:bk.toNat∈kN L f.node:=by rw[ekL];simp
    have hUb:=(hall _ hbm).1
    rw[(b.node hUb (hall _ hbm).2).2.2.2.2]
    refine seq_bare hA (kN L bk.toNat) (fun k hk' hk13=>?_) (C:=[m]) (C' := [m']) ⟨hm,trivial⟩ Nr.nil h
    refine stmt_bare b hn hA S hE k (hUb.kid hn hA hk' hk13) ?_
    obtain⟨y,q,hy,hq,rfl⟩:=mem_kN hk'
    rw[← kd_kdN]
    exact S.blk hy (by rw[← kdN_of hy,← kd_kdN];exact hbk) q hq
theorem funs_bare {E E' : Env} (hE:Er L R E E') : ∀ (l l' : List FnD),(∀ f∈l,U L f.node∧kdN L f.node=3∧f.params=(kN L f.node).length-1)→l'.map (fun f=>(f.params,f.vars.length,f.node))=l.map (fun f=>(f.params,f.vars.length,R f.node))→funsE L E l = .ok ()→funsE O E' l' = .ok ()
 | [],[],_,_,_=>rfl
 | [],_::_,_,h,_=>by simp at h
 | _::_,[],_,h,_=>by simp at h
 | f::r,f'::r',H,hk,h=>by
   rw[List.map_cons,List.map_cons,List.cons.injEq] at hk
   unfold funsE at h ⊢
   cases hf:funE L E f with
   | error e=>rw[hf] at h;cases h
   | ok u =>
     rw[hf] at h
     rw[fun_bare b hn hA S hE (H f (by simp)) hk.1 hf]
     exact funs_bare hE r r' (fun g hg=>H g (by simp[hg])) hk.2 h
end
theorem judge_bare {L O:List Nd} {R:Nat→Nat} (b:Bt L O R) {pc po:Nat} (hc:checkL L=(pc,0)) (ho:checkL O=(po,0)) (h:judgeE L (descL L) = .ok ()) : judgeE O (descL O) = .ok ():=by
 obtain⟨hA,hp,_,_,_⟩:=tree_once hc
 obtain⟨T,hn,_,_,h1,_⟩:=check_zero hc
 have S:=shp_of hn
 have hk1:kdN L (L.length-1)=1:=by simpa [kd_kdN] using h1
 have hU:U L (L.length-1):=⟨by omega,root_stays hn hA S hk1⟩
 have D:=desc_bare b hc ho
 have hfn:∀ f∈(descL L).fns,U L f.node∧kdN L f.node=3∧f.params=(kN L f.node).length-1:=fun f hf=>by
  obtain⟨e1,e2⟩:=foldD_fns (L:=L) (treeW L) f hf
  obtain⟨x,hx,_⟩:=kdN_some e2 (by decide)
  exact⟨⟨(List.getElem?_eq_some_iff.1 hx).1,fun hm=>by have:=mk_kind S hm;omega⟩,e2,e1⟩
 have hfl:(descL O).fns.length=(descL L).fns.length:=by have:=congrArg List.length D.fn;simpa using this
 have hnd:(descL O).fns.map FnD.node=((descL L).fns.map FnD.node).map R:=by
  have:=congrArg (List.map (fun t:Nat×Nat×Nat=>t.2.2)) D.fn
  rw[List.map_map,List.map_map] at this
  rw[List.map_map]
  exact this
 unfold judgeE at h ⊢
 rw[D.so,hfl]
 split at h
 ·cases h
 ·rename_i hb
  rw[if_neg hb]
  have nk:=b.kids S hU (by omega) (by omega)
  rw[← b.last.2.2,nk]
  cases hr:recsE L (kN L (L.length-1)) NM.nil NM.nil with
  | error e=>rw[hr] at h;cases h
  | ok r1 =>
    rw[hr] at h
    obtain⟨rc,fl⟩:=r1
    obtain⟨⟨rc',fl'⟩,e1,hrc,hfl'⟩:=recs_bare b hn hA S (kN L (L.length-1)) (fun k hk=>by
     have h13:kdN L k≠13:=fun e=>by have:=kid13 S hk e;omega
     refine⟨hU.kid hn hA hk h13,?_⟩
     obtain⟨y,q,hy,hq,rfl⟩:=mem_kN hk
     exact S.prg hy ((kdN_of hy).symm.trans hk1) q hq) Nr.nil Nr.nil hr
    rw[e1]
    simp only at h ⊢
    rw[hnd]
    cases hd:decsE L ((descL L).fns.map FnD.node) NM.nil with
    | error e=>rw[hd] at h;cases h
    | ok fn =>
      rw[hd] at h
      have hnode:∀ k∈(descL L).fns.map FnD.node,U L k∧kdN L k=3:=fun k hk=>by
       obtain⟨f,hf,rfl⟩:=List.mem_map.1 hk
       exact⟨(hfn f hf).1,(hfn f hf).2.1⟩
      obtain⟨fn',e2,hfn'⟩:=decs_bare b _ (fun k hk=>⟨(hnode k hk).1,by have:=(hnode k hk).2;omega⟩) Nr.nil hd
      rw[e2]
      simp only at h ⊢
      rw[hfn']
      cases hmn:fn mainB with
      | none=>rw[hmn] at h;cases h
      | some k =>
        rw[hmn] at h
        simp only[Option.map_some] at h ⊢
        have hfrom:∀ q f,fn q=some f→U L f∧kdN L f=3:=fun q f hq=>by
         rcases decs_from hd hq with h1 | h1
         ·exact hnode f h1
         ·cases h1
        obtain⟨uk,kk⟩:=hfrom _ _ hmn
        rw[b.kids S uk (by omega) (by omega),List.length_map]
        split at h
        ·cases h
        ·rename_i h0
         rw[if_neg h0]
         exact funs_bare b hn hA S ⟨hfl',hrc,hfn',hfrom⟩ _ _ hfn D.fn h
theorem sumN_pos {f:Nat→Nat} : ∀ {n:Nat},0<sumN n f→∃ i,i<n∧0<f i
 | 0,h=>by simp[sumN] at h
 | n+1,h=>by
   simp only[sumN] at h
   by_cases h0:0<f n
   ·exact⟨n,by omega,h0⟩
   ·obtain⟨i,hi,hf⟩:=sumN_pos (n:=n) (f:=f) (by omega)
    exact⟨i,by omega,hf⟩
theorem kidD_ge {D:List Nat} {n:Nat} : ∀ (ks:List Int) (d:Nat),d≤kidD D n ks d∧∀ k∈ks,0≤k→k<n→1+D.getD k.toNat 0≤kidD D n ks d
 | [],d=>⟨Nat.le_refl _,by simp⟩
 | q::r,d=>by
   obtain⟨h1,h2⟩:=kidD_ge (D:=D) (n:=n) r (if 0≤q∧q<n then max d (1+D.getD q.toNat 0) else d)
   rw[kidD]
   refine⟨Nat.le_trans ?_ h1,fun k hk h0 hkn=>?_⟩
   ·split <;> omega
   ·rcases List.mem_cons.1 hk with e | hk
    ·subst e
     refine Nat.le_trans ?_ h1
     rw[if_pos ⟨h0,hkn⟩]
     omega
    ·exact h2 k hk h0 hkn
theorem kidD_ub {D:List Nat} {n M:Nat} : ∀ (ks:List Int) (d:Nat),d≤M→(∀ k∈ks,0≤k→k<n→1+D.getD k.toNat 0≤M)→kidD D n ks d≤M
 | [],d,h,_=>h
 | q::r,d,h,H=>by
   rw[kidD]
   refine kidD_ub r _ ?_ (fun k hk=>H k (by simp[hk]))
   split
   ·rename_i hq
    have:=H q (by simp) hq.1 hq.2
    omega
   ·exact h
theorem depths_at {L:List Nd} : ∀ {n i:Nat},i<n→∀ {x:Nd},L[i]? = some x→(depths L n).getD i 0=kidD (depths L i) i x.ks 1
 | 0,i,h,x,hx=>by omega
 | n+1,i,h,x,hx=>by
   have hl:=depths_length L n
   rw[depths]
   by_cases e:i=n
   ·subst e
    rw[List.getD_eq_getElem?_getD,List.getElem?_append_right (by omega),hl,hx]
    simp
   ·rw[List.getD_eq_getElem?_getD,List.getElem?_append_left (by omega),← List.getD_eq_getElem?_getD]
    exact depths_at (by omega) hx
theorem depths_pre {L:List Nd} {n m i:Nat} (h1:i<n) (h2:i<m) (hi:i<L.length) : (depths L n).getD i 0=(depths L m).getD i 0:=by
 have hx:L[i]? = some L[i]:=List.getElem?_eq_getElem hi
 rw[depths_at h1 hx,depths_at h2 hx]
section
variable {L O:List Nd} {R:Nat→Nat} (b:Bt L O R) {T:List Bool} (hn:nodesL L L.length = .ok T) (hA:Ahead L) (S:Shp L)
include b hn hA S
theorem ex_bare:∀ i,U L i→isEx (kdN L i)=true→isEx (kdN O (R i))=true:=by
 intro i
 induction i using Nat.strongRecOn with
 | _ i ih =>
   intro hU hx
   by_cases h29:kdN L i=29
   ·obtain⟨z,hz,e⟩:=b.promote hU h29
    have hzm:z∈kN L i:=by rw[hz];simp
    rw[e]
    exact ih z (hA.kid hzm) (hU.kid hn hA hzm (fun e=>by have:=kid13 S hzm e;omega)) (kidEx S hx hzm)
   ·rw[(b.node hU h29).2.1];exact hx
theorem shapes_bare (j:Nat) (y:Nd) (hy:O[j]? = some y) : ∃ t ls,wantL y.kind=some (t,ls)∧textL t y.text=true∧fitL ls (y.ks.map (kd O))=true∧0≤y.pl:=by
 obtain⟨i,x,hx,hm,h29,e⟩:=b.org j y hy
 have hU:U L i:=⟨(List.getElem?_eq_some_iff.1 hx).1,hm⟩
 obtain⟨y',hy',k1,k2,k3,k4⟩:=b.fw i x hx hm h29
 rw[e,hy] at hy'
 cases hy'
 obtain⟨A,V,hA1,hV⟩:=nodes_at_ok hn hx
 obtain⟨⟨t,ls,hw,ht,hf⟩,hpl,_⟩:=node_parts hV
 refine⟨t,ls,by rw[k1];exact hw,by rw[k2];exact ht,?_,by rw[k3];exact hpl⟩
 rw[shape_fit _ t ls _ hw] at hf ⊢
 have hkn:∀ q∈x.ks,q.toNat∈kN L i:=fun q hq=>by rw[kN_some hx];exact List.mem_map.2 ⟨q,hq,rfl⟩
 have e4:y.ks.map (kd O)=(x.ks.filter (fun k=>kdN L k.toNat != 13)).map (fun k=>kdN O (R k.toNat)):=by
  rw[k4,List.map_map]
  rfl
 rw[e4]
 by_cases h4:x.kind=4
 ·rw[h4]
  have hb:=S.blk hx h4
  show List.all _ isSt=true
  rw[List.all_map,List.all_eq_true]
  intro q hq
  obtain⟨hq1,hq2⟩:=List.mem_filter.1 hq
  have hst:=hb q hq1
  rw[kd_kdN] at hst
  have h13:kdN L q.toNat≠13:=by simpa using hq2
  have hr:5≤kdN L q.toNat∧kdN L q.toNat≤13:=by simpa [isSt] using hst
  simp only[Function.comp]
  rw[(b.node (hU.kid hn hA (hkn q hq1) h13) (by omega)).2.1]
  exact hst
 ·have ef:x.ks.filter (fun k=>kdN L k.toNat != 13)=x.ks:=List.filter_eq_self.2 (fun q hq=>by
   rw[bne_iff_ne]
   exact fun e13=>h4 (by rw[← kdN_of hx];exact kid13 S (hkn q hq) e13))
  rw[ef]
  refine shape_R x.kind x.ks (kd L) _ (fun q hq=>?_) hf
  have h13:kdN L q.toNat≠13:=fun e13=>h4 (by rw[← kdN_of hx];exact kid13 S (hkn q hq) e13)
  have hUq:=hU.kid hn hA (hkn q hq) h13
  by_cases hq29:kdN L q.toNat=29
  ·refine .inr ⟨by rw[kd_kdN];exact hq29,?_⟩
   exact ex_bare b hn hA S _ hUq (by rw[hq29];rfl)
  ·exact .inl (by rw[kd_kdN];exact (b.node hUq hq29).2.1)
theorem up_bare (h0:has0 T (L.length-1)=false) (h1:kdN L (L.length-1)=1) : ∀ g i,U L i→i+g+1=L.length→i≠L.length-1→∃ q k,U L q∧kdN L q≠29∧k∈kN L q∧kdN L k≠13∧R k=R i:=by
 intro g
 induction g using Nat.strongRecOn with
 | _ g ih =>
   intro i hU hg hne
   have hlen:=nodes_length _ _ hn
   have hT:=has0_get h0 (by omega) (m:=i) (by have:=hU.1;omega)
   have hs:=nodes_count _ _ hn (Nat.le_refl _) i
   rw[hT] at hs
   obtain⟨q,hq,hc⟩:=sumN_pos (f:=fun j=>(kN L j).count i) (by rw[hs];decide)
   have hqm:i∈kN L q:=List.count_pos_iff.1 hc
   have hiq:=hA.kid hqm
   have hUq:U L q:=⟨hq,fun hm=>by
    rcases mk_kind S hm with e | e
    ·exact hU.2 ⟨q,hq,e,.inr hqm⟩
    ·obtain⟨y,p,hy,hp,_⟩:=mem_kN hqm
     rw[S.nil hy (by rw[← kdN_of hy];omega)] at hp
     simp at hp⟩
   by_cases h29:kdN L q=29
   ·obtain⟨z,hz,e⟩:=b.promote hUq h29
    rw[hz] at hqm
    simp at hqm
    have hqr:q≠L.length-1:=fun e=>by rw[e,h1] at h29;exact absurd h29 (by decide)
    obtain⟨q',k,a1,a2,a3,a4,a5⟩:=ih (L.length-1-q) (by omega) q hUq (by omega) hqr
    exact⟨q',k,a1,a2,a3,a4,by rw[a5,e,hqm]⟩
   ·exact⟨q,i,hUq,h29,hqm,fun e=>hU.2 ⟨i,hU.1,e,.inl rfl⟩,rfl⟩
theorem depth_bare:∀ i,U L i→(depths O O.length).getD (R i) 0≤(depths L L.length).getD i 0:=by
 intro i
 induction i using Nat.strongRecOn with
 | _ i ih =>
   intro hU
   obtain⟨x,hx⟩:=hU.get
   rw[depths_at hU.1 hx]
   obtain⟨g1,g2⟩:=kidD_ge (D:=depths L i) (n:=i) x.ks 1
   have hkn:∀ q∈x.ks,q.toNat∈kN L i:=fun q hq=>by rw[kN_some hx];exact List.mem_map.2 ⟨q,hq,rfl⟩
   have up:∀ q∈x.ks,kdN L q.toNat≠13→1+(depths O O.length).getD (R q.toNat) 0≤kidD (depths L i) i x.ks 1:=fun q hq h13=>by
    obtain⟨q0,q1⟩:=hA i x hx q hq
    have h3:=ih q.toNat (by omega) (hU.kid hn hA (hkn q hq) h13)
    have h4:=g2 q hq q0 q1
    have h5:=depths_pre (L:=L) (n:=i) (m:=L.length) (i:=q.toNat) (by omega) (by have:=hU.1;omega) (by have:=hU.1;omega)
    omega
   by_cases h29:kdN L i=29
   ·obtain⟨z,hz,e⟩:=b.promote hU h29
    obtain⟨z',hz',_⟩:=b.pr i x hx hU.2 (by rw[← kdN_of hx];exact h29)
    have hzz:z=z'.toNat:=by
     rw[kN_some hx,hz'] at hz
     simp at hz
     exact hz.symm
    have hzm:z'∈x.ks:=by rw[hz'];simp
    have:=up z' hzm (fun e13=>by have:=kid13 S (hkn z' hzm) e13;omega)
    rw[e,hzz]
    omega
   ·obtain⟨y,hy,_,_,_,k4⟩:=b.fw i x hx hU.2 (by rw[← kdN_of hx];exact h29)
    have hRl:=(List.getElem?_eq_some_iff.1 hy).1
    rw[depths_at hRl hy]
    refine kidD_ub _ _ g1 (fun k hk k0 kn=>?_)
    rw[k4] at hk
    obtain⟨q,hq,rfl⟩:=List.mem_map.1 hk
    obtain⟨hq1,hq2⟩:=List.mem_filter.1 hq
    have h3:=up q hq1 (by simpa using hq2)
    have e1:((R q.toNat:Nat) : Int).toNat=R q.toNat:=rfl
    rw[e1]
    have h5:=depths_pre (L:=O) (n:=R i) (m:=O.length) (i:=R q.toNat) (by omega) (by omega) (by omega)
    omega
end
theorem check_bare {L O:List Nd} {R:Nat→Nat} (b:Bt L O R) {pc:Nat} (hc:checkL L=(pc,0)) : checkL O=(0,0):=by
 obtain⟨hA,hp,h5,_,_⟩:=tree_once hc
 obtain⟨T,hn,hl0,hl5,h1,h0⟩:=check_zero hc
 have S:=shp_of hn
 have hk1:kdN L (L.length-1)=1:=by simpa [kd_kdN] using h1
 have hU:U L (L.length-1):=⟨by omega,root_stays hn hA S hk1⟩
 have hdeep:¬ 200<deepL L:=fun h=>by
  have h0' : (T.take (L.length-1)).contains false=false:=h0
  unfold checkL at hc
  rw[if_neg (by omega),hn] at hc
  simp only at hc
  rw[if_neg (by omega),if_neg (by rw[h0'];simp[h1]),if_pos h] at hc
  cases hc
 obtain⟨l1,l2,l3⟩:=b.last
 obtain⟨T',hn'⟩:=nodes_all b.ahead (fun j y hy=>shapes_bare b hn hA S j y hy) b.once O.length (Nat.le_refl _)
 have hlen' := nodes_length _ _ hn'
 have hall:(T'.take (O.length-1)).contains false=false:=by
  rw[Bool.eq_false_iff]
  intro hcon
  rw[List.contains_iff_mem] at hcon
  obtain⟨m,hm⟩:=List.getElem?_of_mem hcon
  rw[List.getElem?_take] at hm
  split at hm
  ·rename_i hml
   obtain⟨i,x,hx,hmk,h29,e⟩:=b.org m (O[m]'(by omega)) (List.getElem?_eq_getElem _)
   have hUi:U L i:=⟨(List.getElem?_eq_some_iff.1 hx).1,hmk⟩
   have hir:i≠L.length-1:=fun e2=>by rw[e2,l3] at e;omega
   obtain⟨q,k,a1,a2,a3,a4,a5⟩:=up_bare b hn hA S h0 hk1 (L.length-1-i) i hUi (by have:=hUi.1;omega) hir
   have hq:=b.node a1 a2
   have hkm:R k∈kN O (R q):=by rw[hq.2.2.2.2];exact List.mem_map.2 ⟨k,List.mem_filter.2 ⟨a3,by rw[bne_iff_ne];exact a4⟩,rfl⟩
   rw[a5,e] at hkm
   have hs:=nodes_count _ _ hn' (Nat.le_refl _) m
   have hge:=sumN_ge (f:=fun j=>(kN O j).count m) hq.1
   have hpos:=List.count_pos_iff.2 hkm
   rw[hs,List.getD_eq_getElem?_getD,hm] at hge
   simp[b2n] at hge
   omega
  ·cases hm
 have hkO:kd O ((O.length-1:Nat) : Int)=1:=by
  rw[kd_kdN]
  show kdN O (O.length-1)=1
  rw[← l3,(b.node hU (by omega)).2.1]
  exact hk1
 have hdO:¬ 200<deepL O:=by
  have:=depth_bare b hn hA S _ hU
  unfold deepL at hdeep ⊢
  rw[← l3]
  omega
 unfold checkL
 rw[if_neg (by omega),hn']
 simp only
 rw[if_neg (by omega),if_neg (by rw[hall];simp[hkO]),if_neg hdO]
theorem prog_bare {L O:List Nd} (hO:O.map nb=(bareP L L.length).2) {d:Ds} (h:progE L = .ok d) : ∃ d',progE O = .ok d'∧d'.merges = []∧d'.fns.length=d.fns.length∧d'.main=d.main∧(checkL L).2=0∧(checkL O).2=0:=by
 unfold progE at h
 split at h
 ·cases h
 ·rename_i hz
  have hz0:(checkL L).2=0:=Decidable.byContradiction hz
  have hc:checkL L=((checkL L).1,0):=by rw[← hz0]
  cases hj:judgeE L (descL L) with
  | error e=>rw[hj] at h;cases h
  | ok u =>
    rw[hj] at h
    cases h
    obtain⟨R,b⟩:=bt_of hc hO
    have ho:=check_bare b hc
    have D:=desc_bare b hc ho
    refine⟨descL O,?_,D.mg,by have:=congrArg List.length D.fn;simpa using this,D.mn,hz0,by rw[ho]⟩
    unfold progE
    rw[if_neg (by rw[ho];simp),judge_bare b hc ho hj]
theorem bare_again {L O O' : List Nd} (hO:O.map nb=(bareP L L.length).2) {pc:Nat} (hc:checkL L=(pc,0)) (hO' : O'.map nb=(bareP O O.length).2) : O'.map nb=O.map nb:=by
 obtain⟨R,b⟩:=bt_of hc hO
 rw[hO',(bare_id b.ahead b.bare O.length (Nat.le_refl _)).1,List.take_length]
end Go.Proofs.YtnmfcaahdeddnaaGreatDoor.T5
