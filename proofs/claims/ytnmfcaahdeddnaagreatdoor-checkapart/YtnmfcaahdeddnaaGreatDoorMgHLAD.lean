/-
  Parts of the proof; conditions: as each says.
-/
import Derived.Test.YtnmfcaahdeddnaaGreatDoorMgDKMO
import Derived.Test.YtnmfcaahdeddnaaGreatDoorMgFNAI
set_option maxRecDepth 100000
namespace Go.Proofs.YtnmfcaahdeddnaaGreatDoor
open Go.RowKit
set_option linter.unusedVariables false
set_option linter.unusedSimpArgs false
def cI (l:List Nat) : List Int:=l.map (fun (n:Nat)=>(n:Int))
def nd5 (m:MN) : T5.Nd:=⟨m.x.kind,⟨m.x.text.toArray⟩,m.a,m.c,cI m.x.kids,m.x.pl⟩
def nx5 (x:PN) : T5.Nd:=⟨x.kind,⟨x.text.toArray⟩,none,0,cI x.kids,x.pl⟩
theorem nodes5 {w:World} {B:Nat} {L:List MN} {a:Option Addr} {c:Nat} {F:List Nat} (ho:w.ownsRow B 55 4 (.slice a L.length c) L.length (flatM L)) (hk:∀ m∈L,KRow w F m) (hF:∀ j∈F,j<w.heap.size) (hT:∀ m∈L,m.x.text.length≤200020) : T5.NAt w.heap.size w a (L.map nd5):=by
 intro i x hx
 rw[List.getElem?_map] at hx
 obtain⟨m,hm,rfl⟩:=Option.map_eq_some_iff.1 hx
 have hmem:=List.mem_of_getElem? hm
 obtain⟨k1,k2,k3⟩:=hk m hmem
 have ht:=hT m hmem
 rcases ho.2 with ⟨e1,e2⟩ | ⟨g,cap,cur,e1,-⟩
 ·rw[List.length_eq_zero_iff] at e2
  subst e2
  simp at hm
 ·cases e1
  have hb:=(ho.lt g rfl)
  have hc:∀ j,j<4→∀ u,m.cells[j]? = some u→w.cell? ⟨g,i*4+j,none⟩=some u:=fun j hj u hu=>by
   have:=ho.cells (g:=g) rfl (i*4+j) u (by rw[flatM_get hm j hj];exact hu)
   rw[Addr.add_lit,Nat.zero_add] at this
   exact this
  refine⟨g,0,rfl,hb.2,?_,?_,?_,?_,?_,?_,?_,?_,?_⟩
  ·simpa [nd5] using hc 0 (by omega) _ rfl
  ·simpa [nd5] using hc 1 (by omega) _ rfl
  ·simpa [nd5,cI] using hc 2 (by omega) _ rfl
  ·simpa [nd5] using hc 3 (by omega) _ rfl
  ·intro j k hj
   simp only[nd5,cI,List.getElem?_map] at hj
   obtain⟨n,hn,rfl⟩:=Option.map_eq_some_iff.1 hj
   obtain⟨b,o,cc,z,q1,q2,q3,q4⟩:=k3 j n hn
   exact⟨b,o,q1,hF b q2,at_cells q3 _ q4⟩
  ·simp only[nd5]
   rw[Lib.size_eq]
   simp only
   unfold maxLen
   omega
  ·simpa [nd5,cI] using Nat.le_trans k1.1 k1.2
  ·simpa [nd5,cI] using k1.1
  ·exact k2
def bare5 (x:T5.Nd) : T5.Nd:=⟨x.kind,x.text,none,0,x.ks,x.pl⟩
theorem kd_bare (L:List T5.Nd) (k:Int) : T5.kd (L.map bare5) k=T5.kd L k:=by
 unfold T5.kd
 rw[List.getElem?_map]
 cases L[k.toNat]? <;> rfl
theorem nodeE_bare (L:List T5.Nd) (n:Nat) (x:T5.Nd) (T:List Bool) : T5.nodeE (L.map bare5) n (bare5 x) T=T5.nodeE L n x T:=by
 have e:(bare5 x).ks.map (T5.kd (L.map bare5))=x.ks.map (T5.kd L):=List.map_congr_left (fun k _=>kd_bare L k)
 unfold T5.nodeE
 rw[e]
 rfl
theorem nodesL_bare (L:List T5.Nd) : ∀ n,T5.nodesL (L.map bare5) n=T5.nodesL L n
 | 0=>by simp[T5.nodesL]
 | n+1=>by
   simp only[T5.nodesL,nodesL_bare L n,List.getElem?_map]
   cases T5.nodesL L n with
   | error e=>rfl
   | ok T =>
     cases hx:L[n]? with
     | none=>rfl
     | some x=>simp only[Option.map_some,nodeE_bare]
theorem depths_bare (L:List T5.Nd) : ∀ n,T5.depths (L.map bare5) n=T5.depths L n
 | 0=>rfl
 | n+1=>by
   simp only[T5.depths,depths_bare L n,List.getElem?_map]
   cases L[n]? <;> rfl
theorem checkL_bare (L:List T5.Nd) : T5.checkL (L.map bare5)=T5.checkL L:=by
 unfold T5.checkL T5.deepL
 simp only[List.length_map,nodesL_bare,depths_bare,kd_bare]
theorem prg_err_ne {s:ByteArray} {p c:Nat} (h:prgL s = .error (p,c)) : c≠0:=by
 rcases hsc:sc s 0 with ⟨ts,_ | ⟨p',c'⟩⟩
 ·rw[prgL_after hsc rfl] at h
  unfold afterL at h
  split at h
  ·cases h;decide
  ·split at h
   ·cases h;decide
   ·split at h
    ·cases h;decide
    ·split at h
     ·cases h;decide
     ·cases h
 ·unfold prgL at h
  rw[hsc] at h
  cases h
  have h1:=scanL_err (s.size+1) 0 (s.data.toList.drop 0) (p,c) (show (sc s 0).2=_ by rw[hsc])
  simp only at h1
  omega
namespace T5
structure Alk (L M:List Nd) : Prop where
 kd:∀ n,kdN L n=kdN M n
 tx:∀ n,txN L n=txN M n
 pl:∀ n,plN L n=plN M n
 k:∀ n,kN L n=kN M n
 tb:∀ n,tbN L n=tbN M n
 len:L.length=M.length
 ck:checkL L=checkL M
theorem alk_bare (L:List Nd) : Alk (L.map bare5) L :=
 ⟨fun n=>by unfold kdN;rw[List.getElem?_map];cases L[n]? <;> rfl,fun n=>by unfold txN;rw[List.getElem?_map];cases L[n]? <;> rfl,fun n=>by unfold plN;rw[List.getElem?_map];cases L[n]? <;> rfl,
  fun n=>by unfold kN;rw[List.getElem?_map];cases L[n]? <;> rfl,fun n=>by unfold tbN;rw[List.getElem?_map];cases L[n]? <;> rfl,by simp,checkL_bare L⟩
section
variable {L M:List Nd} (h:Alk L M)
include h
theorem Alk.dec (n:Nat) (m:NM) : decE L n m=decE M n m:=by unfold decE;rw[h.tx,h.pl]
theorem Alk.self (E:Env) (C:List NM) (n:Nat) : selfE L E C n=selfE M E C n:=by
 unfold selfE
 rw[h.kd,h.tx,h.pl,h.k]
 simp only[h.k]
theorem Alk.exprF (E:Env) (C:List NM) : ∀ f n,exprF L E C f n=exprF M E C f n
 | 0,n=>rfl
 | f+1,n=>by
   unfold T5.exprF
   rw[h.self,h.k,eachE_congr (fun k _=>Alk.exprF E C f k)]
theorem Alk.expr (E:Env) (C:List NM) (n:Nat) : exprE L E C n=exprE M E C n:=h.exprF E C _ n
theorem Alk.greens (E:Env) (C:List NM) : ∀ l m,greensE L E C l m=greensE M E C l m
 | [],m=>rfl
 | k::r,m=>by
   unfold greensE
   rw[h.expr,h.dec]
   cases exprE M E C k with
   | error e=>rfl
   | ok u =>
     cases decE M k m with
     | error e=>rfl
     | ok m'=>exact Alk.greens E C r m'
theorem Alk.merge (E:Env) (C:List NM) (n:Nat) : mergeE L E C n=mergeE M E C n:=by unfold mergeE;rw[h.k,h.pl,h.greens]
theorem Alk.stmtF (E:Env) : ∀ f C n m,stmtF L E f C n m=stmtF M E f C n m
 | 0,C,n,m=>rfl
 | f+1,C,n,m=>by
   have hk:∀ n i,kid L n i=kid M n i:=fun n i=>by unfold kid;rw[h.k]
   have hS:∀ C l m,seqE (T5.stmtF L E f C) l m=seqE (T5.stmtF M E f C) l m:=fun C l m=>seqE_congr (fun k _ m=>Alk.stmtF E f C k m) m
   have hE:∀ C l,eachE (exprE L E C) l=eachE (exprE M E C) l:=fun C l=>eachE_congr (fun k _=>h.expr E C k)
   unfold T5.stmtF
   simp only[h.kd,h.tx,h.pl,hk,h.k,hS,hE,h.expr,h.merge]
theorem Alk.block (E:Env) (C:List NM) (l:List Nat) : blockE L E C l=blockE M E C l:=seqE_congr (fun k _ m=>h.stmtF E _ C k m) _
theorem Alk.decs:∀ l m,decsE L l m=decsE M l m
 | [],m=>rfl
 | k::r,m=>by
   unfold decsE
   rw[h.dec]
   cases decE M k m with
   | error e=>rfl
   | ok m'=>exact Alk.decs r m'
theorem Alk.recs:∀ l rc fl,recsE L l rc fl=recsE M l rc fl
 | [],rc,fl=>rfl
 | k::r,rc,fl=>by
   unfold recsE
   simp only[h.kd,h.dec,h.k,h.pl,h.decs]
   split
   ·cases decE M k rc with
    | error e=>rfl
    | ok rc' =>
      simp only
      split
      ·rfl
      ·cases decsE M (kN M k) fl with
       | error e=>rfl
       | ok fl'=>exact Alk.recs r rc' fl'
   ·exact Alk.recs r rc fl
theorem Alk.fun_ (E:Env) (f:FnD) : funE L E f=funE M E f:=by
 have hk:∀ n i,kid L n i=kid M n i:=fun n i=>by unfold kid;rw[h.k]
 unfold funE
 simp only[h.pl,h.k,h.decs,hk,h.block]
theorem Alk.funs (E:Env) : ∀ l,funsE L E l=funsE M E l
 | []=>rfl
 | f::r=>by
   unfold funsE
   rw[h.fun_]
   cases funE M E f with
   | error e=>rfl
   | ok u=>exact Alk.funs E r
theorem Alk.judge (d:Ds) : judgeE L d=judgeE M d:=by
 unfold judgeE
 simp only[h.k,h.len,h.recs,h.decs,h.funs]
theorem Alk.walkL:∀ f n d,walkL L f n d=walkL M f n d
 | 0,n,d=>rfl
 | f+1,n,d=>by
   unfold T5.walkL
   rw[h.k]
   congr 1
   exact flat_congr (fun k _=>Alk.walkL f k (d+1))
theorem Alk.treeW:treeW L=treeW M:=by
 unfold T5.treeW wk
 rw[h.ck,h.len,h.walkL]
theorem Alk.step (d:Ds) (n:Nat) : stepD L d n=stepD M d n:=by
 have hm:∀ l:List Nat,l.map (tbN L)=l.map (tbN M):=fun l=>List.map_congr_left (fun k _=>h.tb k)
 unfold stepD
 simp only[h.kd,h.tb,h.k,h.tx,hm]
theorem Alk.desc:descL L=descL M:=by
 unfold descL
 rw[h.treeW]
 congr 1
 funext d t
 exact h.step d t.1
theorem Alk.prog:progE L=progE M:=by
 unfold progE
 rw[h.ck,h.desc,h.judge,h.len,h.pl]
end
end T5
open T5 (hidC)
theorem T5.progE_ok (L:List T5.Nd) : T5.JOk (T5.progE L):=by
 unfold T5.progE
 split
 ·rename_i h
  exact T5.JOk.err _ h
 ·exact T5.JOk.of (T5.judgeE_ok L _) (fun e he=>by rw[he]) (fun x hx=>by rw[hx];exact T5.JOk.ok _)
def srcL (s:ByteArray) : Except (Int×Nat) (List PN×T5.Ds):=match prgL s with
 | .error (p,c)=>.error ((p:Int),c)
 | .ok ms=>match T5.progE (ms.map nx5) with
   | .error e=>.error e
   | .ok d=>.ok (ms,d)
def SOut (s:ByteArray) (w w' : World) (e:Ending) : Prop:=match srcL s with
 | .error (p,c)=>e = .returned (.tuple #[.slice none 0 0,.agg #[.slice none 0 0,.slice none 0 0,.int .i64 0,.slice none 0 0],.int .i64 p,.int .i64 (c:Nat)])
 | .ok (ms,d)=>∃ (a:Option Addr) (c:Nat) (L:List MN) (sv fv mv:Value) (SS:List T5.SrM) (FF:List T5.FnM),e = .returned (.tuple #[.slice a L.length c,.agg #[sv,fv,.int .i64 (d.main:Nat),mv],.int .i64 0,.int .i64 0])∧L.map MN.x=ms∧T5.NAt w'.heap.size w' a (L.map nd5)∧T5.DM w' w.heap.size d sv fv mv SS FF
theorem SOut.err {s:ByteArray} {w w' : World} {p:Int} {c:Nat} (h:srcL s = .error (p,c)) : SOut s w w' (.returned (.tuple #[.slice none 0 0,.agg #[.slice none 0 0,.slice none 0 0,.int .i64 0,.slice none 0 0],.int .i64 p,.int .i64 (c:Nat)])):=by unfold SOut;rw[h]
theorem SOut.ok {s:ByteArray} {w w' : World} {ms:List PN} {d:T5.Ds} {e:Ending} (h:srcL s = .ok (ms,d)) (k:∃ (a:Option Addr) (c:Nat) (L:List MN) (sv fv mv:Value) (SS:List T5.SrM) (FF:List T5.FnM),e = .returned (.tuple #[.slice a L.length c,.agg #[sv,fv,.int .i64 (d.main:Nat),mv],.int .i64 0,.int .i64 0])∧L.map MN.x=ms∧T5.NAt w'.heap.size w' a (L.map nd5)∧T5.DM w' w.heap.size d sv fv mv SS FF) : SOut s w w' e:=by unfold SOut;rw[h];exact k
end Go.Proofs.YtnmfcaahdeddnaaGreatDoor
namespace Go.Proofs.YtnmfcaahdeddnaaGreatDoor
open Go.RowKit
open T5 (hidC)
set_option linter.unusedVariables false
set_option linter.unusedSimpArgs false
set_option maxHeartbeats 4000000 in
theorem source_any (s:ByteArray) (w:World) (hs:s.size≤200000) (T:Tabs w) (hT:∀ ms,prgL s = .ok ms→ms.length≤50000∧∀ x∈ms,x.text.length≤200020) :
 Calls Tryz.prog 8 #[.string s] w fun e w'=>SOut s w w' e∧Fr [] w w' := by
 have F0:Fr [] w (w.alloc (.cells #[.slice none 0 0,.slice none 0 0,.int .i64 0,.slice none 0 0] 28)):=(Fr.refl _ _).alloc _
 have r0:=heap_alloc_new w (.cells #[.slice none 0 0,.slice none 0 0,.int .i64 0,.slice none 0 0] 28)
 have C:=prog_any s (w.alloc (.cells #[.slice none 0 0,.slice none 0 0,.int .i64 0,.slice none 0 0] 28)) hs (T.fr F0 (by simp))
 have HT:=hidC hT
 have HTT:=hidC T
 have HZ:Hid (∀ (w4:World) x0 x1 x2 x3,Fr [] w w4→w4.heap[w.heap.size]? = some (.cells #[.slice none 0 0,.slice none 0 0,.int .i64 0,.slice none 0 0] 28 (0,0))→Fr [] w ((((w4.setCell ⟨w.heap.size,0,none⟩ x0).setCell ⟨w.heap.size,1,none⟩ x1).setCell ⟨w.heap.size,2,none⟩ x2).setCell ⟨w.heap.size,3,none⟩ x3)∧Fr [w.heap.size] w4 ((((w4.setCell ⟨w.heap.size,0,none⟩ x0).setCell ⟨w.heap.size,1,none⟩ x1).setCell ⟨w.heap.size,2,none⟩ x2).setCell ⟨w.heap.size,3,none⟩ x3)∧((((w4.setCell ⟨w.heap.size,0,none⟩ x0).setCell ⟨w.heap.size,1,none⟩ x1).setCell ⟨w.heap.size,2,none⟩ x2).setCell ⟨w.heap.size,3,none⟩ x3).heap[w.heap.size]? = some (.cells #[x0,x1,x2,x3] 28 (0,0))):=fun w4 x0 x1 x2 x3 F5 r4=>by
  have f9:Fr [w.heap.size] w4 ((((w4.setCell ⟨w.heap.size,0,none⟩ x0).setCell ⟨w.heap.size,1,none⟩ x1).setCell ⟨w.heap.size,2,none⟩ x2).setCell ⟨w.heap.size,3,none⟩ x3):=((((Fr.refl _ _).setCell (.inl (by simp)) _).setCell (.inl (by simp)) _).setCell (.inl (by simp)) _).setCell (.inl (by simp)) _
  exact⟨F5.over f9 (by simp),f9,T5.set4_3 (T5.set4_2 (T5.set4_1 (T5.set4_0 r4)))⟩
 clear T hT
 go_enter Tryz.func8,Tryz.ntmps8
 go_wp2_with fail
 refine C.mono ?_
 rintro e w1 ⟨hO,f1⟩
 have r1:=(f1.block _ (Array.getElem?_eq_some_iff.1 r0).1 (by simp)).trans r0
 have F1:=F0.trans f1
 have HS0:Hid (w.heap.size≤(w.alloc (.cells #[.slice none 0 0,.slice none 0 0,.int .i64 0,.slice none 0 0] 28)).heap.size):=F0.size
 clear C r0 F0
 cases hp:prgL s with
 | error x =>
   obtain⟨p,c⟩:=x
   have hc0:((c:Int) != 0)=true:=by have:=prg_err_ne hp;simp;omega
   have hsrc:srcL s = .error ((p:Int),c):=by unfold srcL;rw[hp]
   unfold PrgOut at hO
   rw[hp] at hO
   have hO' : e = .returned (.tuple #[.slice none 0 0,.int .i64 (p:Nat),.int .i64 (c:Nat)]):=hO
   subst hO'
   have c0:=at_cells r1 0 rfl
   have c1:=at_cells r1 1 rfl
   have c2:=at_cells r1 2 rfl
   have c3:=at_cells r1 3 rfl
   have z1:∀ i,w1.frozen? ⟨w.heap.size,i,none⟩=false:=fun i=>by simp[World.frozen?,r1]
   have HX:=hidC (HZ.out w1 (.slice none 0 0) (.slice none 0 0) (.int .i64 0) (.slice none 0 0) F1 r1)
   have HSR:=hidC hsrc
   clear hO hp f1 hsrc
   go_wp2
   obtain⟨t1,t2,t3⟩:=HX.out
   have k0:=at_cells t3 0 rfl
   have k1:=at_cells t3 1 rfl
   have k2:=at_cells t3 2 rfl
   have k3:=at_cells t3 3 rfl
   refine bodyPost_ret (v:=.tuple #[.slice none 0 0,.agg #[.slice none 0 0,.slice none 0 0,.int .i64 0,.slice none 0 0],.int .i64 p,.int .i64 c]) (by simp[results,Tryz.results8,go_sem,k0,k1,k2,k3]) rfl ⟨SOut.err HSR.out,t1⟩
 | ok ms =>
   unfold PrgOut at hO
   rw[hp] at hO
   obtain⟨nv,L,F',rfl,hL,hown,hob,hkr,hF⟩:=hO
   obtain⟨a,c,rfl,-⟩:=own_slice hown
   obtain⟨hml,hmt⟩:=HT.out ms hp
   have hll:L.length=ms.length:=by rw[← hL];simp
   have hN:=nodes5 hown hkr (fun j hj=>(hF j hj).2) (fun m hm=>hmt m.x (by rw[← hL];exact List.mem_map_of_mem hm))
   have C19:=T5.prog8_any (len:=L.length) (cap:=c) (by simp) hN (by omega) (HTT.out.fr F1 (by simp))
   have hsrc:srcL s=match T5.progE (L.map nd5) with | .error e=>.error e | .ok d=>.ok (ms,d):=by
    unfold srcL
    rw[hp]
    simp only
    have e1:(L.map nd5).map bare5=ms.map nx5:=by rw[← hL];simp[nd5,nx5,bare5,Function.comp_def]
    rw[← e1,(T5.alk_bare (L.map nd5)).prog]
    try (cases T5.progE (L.map nd5) <;> rfl)
   have HSR:=hidC hsrc
   have HLL:=hidC hL
   have HN:=hidC hN
   have HNF:Hid (∀ w',Fr [w.heap.size] w1 w'→T5.NAt w'.heap.size w' a (L.map nd5)):=fun w' f=>by
    have hF' : ∀ j∈F',w.heap.size+1≤j∧j<w1.heap.size:=fun j hj=>by have:=hF j hj;simpa using this
    refine nodes5 (own_fr hown f (fun k hk hm=>?_)) (fun m hm=>(hkr m hm).fr f (fun k hk hm=>?_)) (fun j hj=>?_) (fun m hm=>hmt m.x (by rw[← hL];exact List.mem_map_of_mem hm))
    ·have h1:=(hF' k (hob k hk)).1
     simp at hm;omega
    ·have h1:=(hF' k hm).1
     simp at hk;omega
    ·have h1:=(hF' j hj).2
     have:=f.size
     omega
   have hlI:(L.length:Int)≤50000:=by omega
   clear hown hob hkr hF hp hN hsrc f1 hL hll hmt hml
   go_wp2_with fail
   refine C19.mono ?_
   rintro e w2 ⟨hO,f2⟩
   have r2:=(f2.block _ (Array.getElem?_eq_some_iff.1 r1).1 (by simp)).trans r1
   have F2:=F1.trans f2
   have Hf2:=hidC f2
   have HS1:Hid (w.heap.size≤w1.heap.size):=F1.size
   cases hq:T5.progE (L.map nd5) with
   | error pe =>
     obtain⟨pp,ee⟩:=pe
     unfold T5.POut at hO
     rw[hq] at hO HSR
     have hO' : e = .returned (.tuple #[.agg #[.slice none 0 0,.slice none 0 0,.int .i64 0,.slice none 0 0],.int .i64 pp,.int .i64 (ee:Nat)]):=hO
     subst hO'
     have hc0:((ee:Int) != 0)=true:=by have:=T5.progE_ok _ pp ee hq;simp;omega
     have F3:Fr [] w2 (w2.alloc (.cells #[.slice none 0 0,.slice none 0 0,.int .i64 0,.slice none 0 0] 28)):=(Fr.refl _ _).alloc _
     have r3:=T5.keep_alloc (u:=.cells #[.slice none 0 0,.slice none 0 0,.int .i64 0,.slice none 0 0] 28) r2
     have F4:=F2.trans F3
     have c0:=at_cells r3 0 rfl
     have c1:=at_cells r3 1 rfl
     have c2:=at_cells r3 2 rfl
     have c3:=at_cells r3 3 rfl
     have z1:∀ i,(w2.alloc (.cells #[.slice none 0 0,.slice none 0 0,.int .i64 0,.slice none 0 0] 28)).frozen? ⟨w.heap.size,i,none⟩=false:=fun i=>by simp[World.frozen?,r3]
     have HX:=hidC (HZ.out _ (.slice none 0 0) (.slice none 0 0) (.int .i64 0) (.slice none 0 0) F4 r3)
     clear hO hq f2 C19 HZ F3
     go_wp2
     obtain⟨t1,t2,t3⟩:=HX.out
     have k0:=at_cells t3 0 rfl
     have k1:=at_cells t3 1 rfl
     have k2:=at_cells t3 2 rfl
     have k3:=at_cells t3 3 rfl
     refine bodyPost_ret (v:=.tuple #[.slice none 0 0,.agg #[.slice none 0 0,.slice none 0 0,.int .i64 0,.slice none 0 0],.int .i64 pp,.int .i64 ee]) (by simp[results,Tryz.results8,go_sem,k0,k1,k2,k3]) rfl ⟨SOut.err HSR.out,t1⟩
   | ok d =>
     unfold T5.POut at hO
     rw[hq] at hO HSR
     obtain⟨sv,fv,mv,SS,FF,rfl,hDM⟩:=hO
     obtain⟨sa,sc,rfl,_⟩:=own_slice hDM.so
     obtain⟨fa,fc,rfl,_⟩:=own_slice hDM.fo
     obtain⟨ma,mc,rfl,_⟩:=own_slice hDM.mo
     have F3:Fr [] w2 (w2.alloc (.cells #[.slice sa SS.length sc,.slice fa FF.length fc,.int .i64 (d.main:Nat),.slice ma d.merges.length mc] 28)):=(Fr.refl _ _).alloc _
     have r3:=T5.keep_alloc (u:=.cells #[.slice sa SS.length sc,.slice fa FF.length fc,.int .i64 (d.main:Nat),.slice ma d.merges.length mc] 28) r2
     have b3:=heap_alloc_new w2 (.cells #[.slice sa SS.length sc,.slice fa FF.length fc,.int .i64 (d.main:Nat),.slice ma d.merges.length mc] 28)
     have HDM:=hidC (hDM.fr F3 (by simp))
     have F4:=F2.trans F3
     have HFA:=hidC (Hf2.out.trans F3)
     clear hq f2 C19 F3 hDM r2 F2 HN
     go_upto_region 7 with fail
     generalize w2.alloc (.cells #[.slice sa SS.length sc,.slice fa FF.length fc,.int .i64 (d.main:Nat),.slice ma d.merges.length mc] 28)=W3 at *
     generalize w2.heap.size=nb at *
     have c0:=at_cells r3 0 rfl
     have c1:=at_cells r3 1 rfl
     have c2:=at_cells r3 2 rfl
     have c3:=at_cells r3 3 rfl
     have d0:=at_cells b3 0 rfl
     have d1:=at_cells b3 1 rfl
     have d2:=at_cells b3 2 rfl
     have d3:=at_cells b3 3 rfl
     have z1:∀ i,W3.frozen? ⟨w.heap.size,i,none⟩=false:=fun i=>by simp[World.frozen?,r3]
     have HX:=hidC (HZ.out W3 (.slice sa SS.length sc) (.slice fa FF.length fc) (.int .i64 (d.main:Nat)) (.slice ma d.merges.length mc) F4 r3)
     have HMB:Hid (∀ W,Fr [w.heap.size] W3 W→T5.DM W w.heap.size d (.slice sa SS.length sc) (.slice fa FF.length fc) (.slice ma d.merges.length mc) SS FF∧T5.NAt W.heap.size W a (L.map nd5)):=fun W f=>by
      have y8:=HDM.out.fr f (fun k hk=>by simp at hk;subst hk;exact HDM.out.off r3 (by intro c t z e;cases e;decide))
      have hb:=HS1.out
      refine⟨⟨T5.own_base hb y8.so,T5.own_base hb y8.fo,T5.own_base hb y8.mo,fun s hs=>T5.own_base hb (y8.ss s hs),fun g hg=>T5.own_base hb (y8.ff g hg),y8.es,y8.ef,y8.ap⟩,?_⟩
      exact HNF.out W ((HFA.out.sub (by simp)).trans f)
     go_region
     all_goals
      obtain⟨t1,t2,t3⟩:=HX.out
      have k0:=at_cells t3 0 rfl
      have k1:=at_cells t3 1 rfl
      have k2:=at_cells t3 2 rfl
      have k3:=at_cells t3 3 rfl
      go_wp2
      refine bodyPost_ret (v:=.tuple #[.slice a L.length c,.agg #[.slice sa SS.length sc,.slice fa FF.length fc,.int .i64 (d.main:Nat),.slice ma d.merges.length mc],.int .i64 0,.int .i64 0]) (by simp[results,Tryz.results8,go_sem,k0,k1,k2,k3]) rfl ⟨?_,t1.drew⟩
      obtain⟨m1,m2⟩:=HMB.out _ t2.drew
      exact SOut.ok HSR.out ⟨a,c,L,_,_,_,SS,FF,rfl,HLL.out,m2,m1⟩
def exA:ByteArray:=⟨#[102,110,32,109,97,105,110,40,41,32,123,32,109,101,114,103,101,40,41,59,32,114,101,116,117,114,110,32,48,59,32,125]⟩
def exB:ByteArray:=⟨([102,110,32,109,97,105,110,40,41,32,123,32,108,101,116,32,120,32,61,32,49,59,32,119,104,105,108,101,32,120,32,123,32].append [109,101,114,103,101,40,120,41,59,32,120,32,61,32,120,32,45,32,49,59,32,125,32,114,101,116,117,114,110,32,120,59,32,125]).toArray⟩
def lensB (s:ByteArray) : Bool:=match prgL s with
 | .ok ms=>decide (ms.length≤50000)&&ms.all (fun x=>decide (x.text.length≤200020))
 | .error _=>true
def goodA:Bool:=match srcL exA with
 | .error (p,c)=>p == 12&&c == 82
 | .ok _=>false
def goodB:Bool:=match srcL exB with
 | .error _=>false
 | .ok (ms,d)=>decide (5<ms.length)&&d.merges.length == 1&&d.fns.length == 1
theorem lensA_ok:lensB exA=true:=by kernel_rfl
theorem lensB_ok:lensB exB=true:=by kernel_rfl
theorem goodA_ok:goodA=true:=by kernel_rfl
theorem goodB_ok:goodB=true:=by kernel_rfl
theorem lens_of {s:ByteArray} (h:lensB s=true) : ∀ ms,prgL s = .ok ms→ms.length≤50000∧∀ x∈ms,x.text.length≤200020:=fun ms hp=>by
 unfold lensB at h
 rw[hp] at h
 simp at h
 exact h
set_option maxHeartbeats 4000000 in
theorem awake_any (w:World) (T:Tabs w) : Calls Tryz.prog 7 #[] w fun e w'=>e = .returned (.bool true)∧Fr [] w w' := by
 have CA:=source_any exA w (by decide) T (lens_of lensA_ok)
 have HB:Hid (∀ w',Fr [] w w'→Calls Tryz.prog 8 #[.string exB] w' fun e w''=>SOut exB w' w'' e∧Fr [] w' w''):=fun w' f=>source_any exB w' (by decide) (T.fr f (by simp)) (lens_of lensB_ok)
 have gA:=goodA_ok
 have gB:=goodB_ok
 unfold goodA at gA
 unfold goodB at gB
 cases hA:srcL exA with
 | ok x=>rw[hA] at gA;simp at gA
 | error pe =>
   obtain⟨p,c⟩:=pe
   rw[hA] at gA
   simp at gA
   obtain⟨rfl,rfl⟩:=gA
   cases hB:srcL exB with
   | error pe=>rw[hB] at gB;simp at gB
   | ok x =>
     obtain⟨ms,d⟩:=x
     rw[hB] at gB
     simp at gB
     have HA:=hidC hA
     have HBB:=hidC hB
     have HG:=hidC gB
     clear hA hB gB T
     go_enter Tryz.func7,Tryz.ntmps7
     go_wp2_with fail
     refine CA.mono ?_
     rintro e w1 ⟨hO,f1⟩
     unfold SOut at hO
     rw[HA.out] at hO
     have hO' : e = .returned (.tuple #[.slice none 0 0,.agg #[.slice none 0 0,.slice none 0 0,.int .i64 0,.slice none 0 0],.int .i64 12,.int .i64 82]):=hO
     subst hO'
     have F2:Fr [] w (w1.alloc (.cells #[.slice none 0 0,.slice none 0 0,.int .i64 0,.slice none 0 0] 28)):=f1.alloc _
     have CB:=HB.out _ F2
     clear hO CA HB f1
     go_wp2_with fail
     refine CB.mono ?_
     rintro e w3 ⟨hO,f3⟩
     unfold SOut at hO
     rw[HBB.out] at hO
     obtain⟨a,c,L,sv,fv,mv,SS,FF,rfl,hL,hN,hDM⟩:=hO
     obtain⟨sa,sc,rfl,_⟩:=own_slice hDM.so
     obtain⟨fa,fc,rfl,_⟩:=own_slice hDM.fo
     obtain⟨ma,mc,rfl,_⟩:=own_slice hDM.mo
     have h1:(5:Int)<L.length:=by have h:=HG.out.1.1;rw[← hL,List.length_map] at h;omega
     have h2:d.merges.length=1:=HG.out.1.2
     have h3:FF.length=1:=by have h:=HG.out.2;rw[← hDM.ef,List.length_map] at h;exact h
     rw[h2,h3]
     have F4:=F2.trans f3
     have HF4:=hidC F4
     clear hL hN hDM h2 h3 CB f3 F2 F4
     go_wp2
     go_ret
     exact⟨rfl,HF4.out.alloc _⟩
end Go.Proofs.YtnmfcaahdeddnaaGreatDoor
