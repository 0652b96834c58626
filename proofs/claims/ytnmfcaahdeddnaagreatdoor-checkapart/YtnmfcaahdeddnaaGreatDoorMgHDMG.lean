/-
  Parts of the proof; conditions: as each says.
-/
import Derived.Deep.RegionHeld3
import Derived.RegionDies
import Derived.Shelf.Abstract
import Derived.Test.YtnmfcaahdeddnaaGreatDoorMgOBIA
set_option maxRecDepth 100000
namespace Go.Proofs.YtnmfcaahdeddnaaGreatDoor
open Go.RowKit
set_option linter.unusedVariables false
set_option linter.unusedSimpArgs false
structure MN where
 x:PN
 a:Option Addr
 c:Nat
def MN.cells (m:MN) : List Value:=[.int .i64 m.x.kind,.string ⟨m.x.text.toArray⟩,.slice m.a m.x.kids.length m.c,.int .i64 m.x.pl]
def flatM:List MN→List Value
 | []=>[]
 | m::r=>m.cells++flatM r
theorem flatM_append (a b:List MN) : flatM (a++b)=flatM a++flatM b:=by
 induction a with
 | nil=>rfl
 | cons t r ih=>simp[flatM,ih]
theorem flatM_get {L:List MN} : ∀ {i:Nat} {m:MN},L[i]? = some m→∀ j,j<4→(flatM L)[i*4+j]? = m.cells[j]? := by
 induction L with
 | nil=>intro i m h;simp at h
 | cons s r ih =>
   intro i m h j hj
   cases i with
   | zero =>
     simp at h
     subst h
     simp only[flatM,Nat.zero_mul,Nat.zero_add]
     rw[List.getElem?_append_left (by simp[MN.cells];omega)]
   | succ i =>
     have:=ih (i:=i) (m:=m) (by simpa using h) j hj
     simp only[flatM]
     rw[List.getElem?_append_right (by simp[MN.cells];omega)]
     rw[show (i+1)*4+j-s.cells.length=i*4+j from by simp[MN.cells];omega]
     exact this
theorem flatT_get {ts:List Tok} : ∀ {i:Nat} {t:Tok},ts[i]? = some t→∀ j,j<5→(flatT ts)[i*5+j]? = (tokA t).toList[j]? := by
 induction ts with
 | nil=>intro i m h;simp at h
 | cons s r ih =>
   intro i m h j hj
   cases i with
   | zero =>
     simp at h
     subst h
     simp only[flatT,Nat.zero_mul,Nat.zero_add]
     rw[List.getElem?_append_left (by simp[tokA];omega)]
   | succ i =>
     have:=ih (i:=i) (t:=m) (by simpa using h) j hj
     simp only[flatT]
     rw[List.getElem?_append_right (by simp[tokA];omega)]
     rw[show (i+1)*5+j-(tokA s).toList.length=i*5+j from by simp[tokA];omega]
     exact this
def KRow (w:World) (F:List Nat) (m:MN) : Prop :=
 (m.x.kids.length≤m.c∧m.c≤maxLen)∧(m.a=none→m.c=0)∧∀ (j k:Nat),m.x.kids[j]? = some k→∃ (b o:Nat) (c:Array Value) (z:Nat×Nat),m.a=some ⟨b,o,none⟩∧b∈F∧w.heap[b]? = some (.cells c 3 z)∧c[o+j]? = some (.int .i64 (k:Nat))
def TRow (w:World) (g:Nat) (ts:List Tok) : Prop:=∃ (c:Array Value) (z:Nat×Nat),w.heap[g]? = some (.cells c 82 z)∧∀ (j:Nat) (u:Value),(flatT ts)[j]? = some u→c[j]? = some u
structure PS (ts:List Tok) (B pb:Nat) (F:List Nat) (i:Nat) (ns:List PN) (w:World) : Prop where
 ex:∃ (tg tc:Nat) (nv:Value) (bd bs bf:Nat) (L:List MN),
  w.heap[pb]? = some (.cells #[.slice (some ⟨tg,0,none⟩) ts.length tc,.int .i64 (i:Nat),nv,.map (some bd),.map (some bs),.map (some bf)] 135 (0,0))∧ts.length≤tc∧tg∈F∧TRow w tg ts∧bd∈F∧RM w bd declM∧bs∈F∧RM w bs stmtM∧bf∈F∧RM w bf firstM ∧
  L.map MN.x=ns∧w.ownsRow B 55 4 nv L.length (flatM L)∧(∀ k,nv.ownBlock=some k→k∈F)∧∀ m∈L,KRow w F m
 pf:pb∈F
 fb:∀ j∈F,B≤j∧j<w.heap.size
 lo:7≤B
 tl:ts.length≤200001
 ti:i<ts.length
section
variable {ts:List Tok} {B pb:Nat} {F:List Nat} {i:Nat} {ns:List PN} {w w' : World}
theorem PS.fr (h:PS ts B pb F i ns w) {S:List Nat} (f:Fr S w w') (hS:∀ j∈S,j∉F) : PS ts B pb F i ns w' := by
 obtain⟨tg,tc,nv,bd,bs,bf,L,h1,h2,h3,⟨c,z,h4,h4'⟩,h5,h6,h7,h8,h9,h10,h11,h12,h13,h14⟩:=h.ex
 have kp:∀ {k:Nat} {o:Obj},k∈F→w.heap[k]? = some o→w'.heap[k]? = some o:=fun hk h=>(f.block _ (Array.getElem?_eq_some_iff.1 h).1 (fun hm=>hS _ hm hk)).trans h
 refine⟨⟨tg,tc,nv,bd,bs,bf,L,kp h.pf h1,h2,h3,⟨c,z,kp h3 h4,h4'⟩,h5,kp h5 h6,h7,kp h7 h8,h9,kp h9 h10,h11,own_fr h12 f (fun k hk hm=>hS k hm (h13 k hk)),h13,fun m hm=>?_⟩,h.pf,fun j hj=>⟨(h.fb j hj).1,Nat.lt_of_lt_of_le (h.fb j hj).2 f.size⟩,h.lo,h.tl,h.ti⟩
 obtain⟨k1,k2,k3⟩:=h14 m hm
 refine⟨k1,k2,fun j k hk=>?_⟩
 obtain⟨b,o,c,z,e1,e2,e3,e4⟩:=k3 j k hk
 exact⟨b,o,c,z,e1,e2,kp e2 e3,e4⟩
end
theorem tk_get {ts:List Tok} {i:Nat} (h:i<ts.length) : ts[i]? = some (tk ts i):=by
 unfold tk
 rw[List.getD_eq_getElem?_getD,List.getElem?_eq_getElem h]
 rfl
theorem TRow.cell {w:World} {g:Nat} {ts:List Tok} (h:TRow w g ts) {i:Nat} (hi:i<ts.length) {j:Nat} (hj:j<5) {u:Value} (hu:(tokA (tk ts i)).toList[j]? = some u) : w.cell? ⟨g,i*5+j,none⟩=some u:=by
 obtain⟨c,z,h1,h2⟩:=h
 have:=h2 (i*5+j) u (by rw[flatT_get (tk_get hi) j hj];exact hu)
 simp[World.cell?,h1,this]
structure PT (ts:List Tok) (pb i:Nat) (w:World) (tg tc:Nat) (nv:Value) (bd bs bf:Nat) : Prop where
 blk:w.heap[pb]? = some (.cells #[.slice (some ⟨tg,0,none⟩) ts.length tc,.int .i64 (i:Nat),nv,.map (some bd),.map (some bs),.map (some bf)] 135 (0,0))
 t0:w.cell? ⟨tg,i*5,none⟩=some (.int .i64 ((tk ts i).kind:Nat))
 t1:w.cell? ⟨tg,i*5+1,none⟩=some (.string ⟨(tk ts i).text.toArray⟩)
 t2:w.cell? ⟨tg,i*5+2,none⟩=some (.int .i64 ((tk ts i).frm:Nat))
 t3:w.cell? ⟨tg,i*5+3,none⟩=some (.int .i64 ((tk ts i).to:Nat))
 t4:w.cell? ⟨tg,i*5+4,none⟩=some (.int .i64 ((tk ts i).n:Nat))
 len:(ts.length:Int)≤200001
 lc:ts.length≤tc
 lt:(i:Int)<ts.length
theorem PS.pt {ts:List Tok} {B pb:Nat} {F:List Nat} {i:Nat} {ns:List PN} {w:World} (h:PS ts B pb F i ns w) : ∃ tg tc nv bd bs bf,PT ts pb i w tg tc nv bd bs bf∧tg∈F∧tg≠pb:=by
 obtain⟨tg,tc,nv,bd,bs,bf,L,h1,h2,h3,h4,h5,h6,h7,h8,h9,h10,h11,h12,h13,h14⟩:=h.ex
 refine⟨tg,tc,nv,bd,bs,bf,⟨h1,h4.cell h.ti (j:=0) (by decide) rfl,h4.cell h.ti (j:=1) (by decide) rfl,h4.cell h.ti (j:=2) (by decide) rfl,h4.cell h.ti (j:=3) (by decide) rfl,h4.cell h.ti (j:=4) (by decide) rfl,by have:=h.tl;omega,h2,by have:=h.ti;omega⟩,h3,fun e=>?_⟩
 obtain⟨c,z,h4,_⟩:=h4
 rw[e,h1] at h4
 simp at h4
theorem pt_cells {pb:Nat} {w:World} {v0 v1 v2 v3 v4 v5:Value} (h:w.heap[pb]? = some (.cells #[v0,v1,v2,v3,v4,v5] 135 (0,0))) : w.cell? ⟨pb,0,none⟩=some v0∧w.cell? ⟨pb,1,none⟩=some v1∧w.cell? ⟨pb,2,none⟩=some v2∧w.cell? ⟨pb,3,none⟩=some v3∧w.cell? ⟨pb,4,none⟩=some v4∧w.cell? ⟨pb,5,none⟩=some v5∧∀ j,w.frozen? ⟨pb,j,none⟩=false:=by
 simp[World.cell?,World.frozen?,h]
set_option maxHeartbeats 1000000 in
theorem next_any {ts:List Tok} {B pb:Nat} {F:List Nat} {i:Nat} {ns:List PN} {w:World} (h:PS ts B pb F i ns w) :
 Calls Tryz.prog 128 #[.pointer (some ⟨pb,0,none⟩)] w fun e w'=>e = .returned (.string ⟨(nx ts i).toArray⟩)∧Fr [] w w' := by
 obtain⟨tg,tc,nv,bd,bs,bf,⟨hb,t0,t1,t2,t3,t4,hlen,hlc,hlt⟩,_,_⟩:=h.pt
 obtain⟨c0,c1,c2,c3,c4,c5,cz⟩:=pt_cells hb
 have HX:Hid (nx ts i=nxT (tk ts i)):=rfl
 have hlt' : i<ts.length:=h.ti
 have F1:Fr [] w (w.alloc (.cells #[.int .i64 ((tk ts i).kind:Nat),.string ⟨(tk ts i).text.toArray⟩,.int .i64 ((tk ts i).frm:Nat),.int .i64 ((tk ts i).to:Nat),.int .i64 ((tk ts i).n:Nat)] 82)):=(Fr.refl _ _).alloc _
 have hlI:(ts.length:Int)≤tc:=by omega
 clear hb h
 generalize nx ts i=X at *
 generalize tk ts i=t at *
 obtain⟨k,tx,fr,to,n⟩:=t
 simp only at *
 have r0:∀ w',Fr [] w w'→w'.cell? ⟨pb,0,none⟩=_:=fun w' f=>f.cell1 c0 (by simp)
 have r1:∀ w',Fr [] w w'→w'.cell? ⟨pb,1,none⟩=_:=fun w' f=>f.cell1 c1 (by simp)
 have s0:∀ w',Fr [] w w'→w'.cell? ⟨tg,i*5,none⟩=_:=fun w' f=>f.cell1 t0 (by simp)
 have s1:∀ w',Fr [] w w'→w'.cell? ⟨tg,i*5+1,none⟩=_:=fun w' f=>f.cell1 t1 (by simp)
 have s2:∀ w',Fr [] w w'→w'.cell? ⟨tg,i*5+2,none⟩=_:=fun w' f=>f.cell1 t2 (by simp)
 have s3:∀ w',Fr [] w w'→w'.cell? ⟨tg,i*5+3,none⟩=_:=fun w' f=>f.cell1 t3 (by simp)
 have s4:∀ w',Fr [] w w'→w'.cell? ⟨tg,i*5+4,none⟩=_:=fun w' f=>f.cell1 t4 (by simp)
 have f0:Fr [] w w:=Fr.refl _ _
 clear c0 c1 c2 c3 c4 c5 t0 t1 t2 t3 t4
 go_enter Tryz.func128,Tryz.ntmps128
 go_wp2
 go_region_held3 (fun w'=>Fr [] w w') (with_reducible (first | assumption | (refine Fr.drew ?_;assumption) | (refine Fr.alloc ?_ _;assumption) | (refine Fr.drew ?_;refine Fr.alloc ?_ _;assumption) | (refine Fr.alloc ?_ _;refine Fr.drew ?_;assumption))) (fail)
 have nb:=heap_alloc_new w (.cells #[.int .i64 (k:Nat),.string ⟨tx.toArray⟩,.int .i64 (fr:Nat),.int .i64 (to:Nat),.int .i64 (n:Nat)] 82)
 have F2:=F1.drew
 have n0:(w.alloc (.cells #[.int .i64 (k:Nat),.string ⟨tx.toArray⟩,.int .i64 (fr:Nat),.int .i64 (to:Nat),.int .i64 (n:Nat)] 82)).drew.cell? ⟨w.heap.size,0,none⟩=some (.int .i64 (k:Nat)):=at_cells (w:=w.alloc _) nb 0 rfl
 have n1:(w.alloc (.cells #[.int .i64 (k:Nat),.string ⟨tx.toArray⟩,.int .i64 (fr:Nat),.int .i64 (to:Nat),.int .i64 (n:Nat)] 82)).drew.cell? ⟨w.heap.size,1,none⟩=some (.string ⟨tx.toArray⟩):=at_cells (w:=w.alloc _) nb 1 rfl
 clear r0 r1 s0 s1 s2 s3 s4 nb F1
 generalize (w.alloc (.cells #[.int .i64 (k:Nat),.string ⟨tx.toArray⟩,.int .i64 (fr:Nat),.int .i64 (to:Nat),.int .i64 (n:Nat)] 82)).drew=w2 at *
 by_cases k1:k=1
 ·subst k1
  go_wp2
  go_ret
  exact⟨by rw[HX.out];rfl,F2⟩
 ·have b1:((k:Int) == 1)=false:=beq_int_false (by omega)
  by_cases k4:k=4
  ·subst k4
   go_wp2
   go_ret
   exact⟨by rw[HX.out];rfl,F2⟩
  ·have b4:((k:Int) == 4)=false:=beq_int_false (by omega)
   by_cases k0:k=0
   ·subst k0
    go_wp2
    go_ret
    exact⟨by rw[HX.out];rfl,F2⟩
   ·have b0:((k:Int) == 0)=false:=beq_int_false (by omega)
    have HK1:Hid (k≠1∧k≠4∧k≠0):=⟨k1,k4,k0⟩
    clear k1 k4 k0
    go_wp2
    go_ret
    obtain⟨q1,q2,q3⟩:=HK1.out
    refine⟨?_,F2⟩
    rw[HX.out]
    simp only[nxT]
    rw[if_neg q1,if_neg q2,if_neg q3]
    rfl
theorem PS.step {ts:List Tok} {B pb:Nat} {F:List Nat} {i:Nat} {ns:List PN} {w:World} (h:PS ts B pb F i ns w) {j:Nat} (hj:j<ts.length) : PS ts B pb F j ns (w.setCell ⟨pb,1,none⟩ (.int .i64 (j:Nat))):=by
 obtain⟨tg,tc,nv,bd,bs,bf,L,h1,h2,h3,⟨c,z,h4,h4'⟩,h5,h6,h7,h8,h9,h10,h11,h12,h13,h14⟩:=h.ex
 have f:Fr [pb] w (w.setCell ⟨pb,1,none⟩ (.int .i64 (j:Nat))):=Fr.setCell (Fr.refl _ _) (.inl (by simp)) _
 have kp:∀ {k:Nat} {o:Obj},k≠pb→w.heap[k]? = some o→(w.setCell ⟨pb,1,none⟩ (.int .i64 (j:Nat))).heap[k]? = some o:=fun hk h=>(f.block _ (Array.getElem?_eq_some_iff.1 h).1 (by simpa using hk)).trans h
 have n1:tg≠pb:=fun e=>by rw[e,h1] at h4;simp at h4
 have nm:∀ {g:Nat} {l:List (List UInt8×Nat)},RM w g l→g≠pb:=fun hr e=>by unfold RM at hr;rw[e,h1] at hr;simp at hr
 refine⟨⟨tg,tc,nv,bd,bs,bf,L,by simp[World.setCell,Array.getElem?_modify,h1],h2,h3,⟨c,z,kp n1 h4,h4'⟩,h5,kp (nm h6) h6,h7,kp (nm h8) h8,h9,kp (nm h10) h10,h11,own_fr h12 f (fun k hk hm=>by simp at hm;subst hm;exact own_ne h12 h1 (by decide) hk),h13,fun m hm=>?_⟩,h.pf,fun j hj=>⟨(h.fb j hj).1,Nat.lt_of_lt_of_le (h.fb j hj).2 f.size⟩,h.lo,h.tl,hj⟩
 obtain⟨k1,k2,k3⟩:=h14 m hm
 refine⟨k1,k2,fun j k hk=>?_⟩
 obtain⟨b,o,c,z,e1,e2,e3,e4⟩:=k3 j k hk
 exact⟨b,o,c,z,e1,e2,kp (fun e=>by rw[e,h1] at e3;simp at e3) e3,e4⟩
set_option maxHeartbeats 1000000 in
theorem pass_any {ts:List Tok} {B pb:Nat} {F:List Nat} {i:Nat} {ns:List PN} {w:World} (h:PS ts B pb F i ns w) (hi:i+1<ts.length) :
 Calls Tryz.prog 157 #[.pointer (some ⟨pb,0,none⟩)] w fun e w'=>e = .returned (.agg (tokA (tk ts i)))∧PS ts B pb F (i+1) ns w'∧Fr F w w' := by
 have hpw:=(h.fb pb h.pf).2
 have F0:Fr [] w (w.alloc (.cells #[.int .i64 0,.string ⟨#[]⟩,.int .i64 0,.int .i64 0,.int .i64 0] 82)):=(Fr.refl _ _).alloc _
 have u0:=TB.new w (.int .i64 0) (.string ⟨#[]⟩) (.int .i64 0) (.int .i64 0) (.int .i64 0)
 have h1:=h.fr F0 (by simp)
 have HW:Hid (∀ j∈F,j<w.heap.size):=fun j hj=>(h.fb j hj).2
 obtain⟨tg,tc,nv,bd,bs,bf,⟨hb,t0,t1,t2,t3,t4,hlen,hlc,hlt⟩,htF,htp⟩:=h1.pt
 obtain⟨c0,c1,c2,c3,c4,c5,cz⟩:=pt_cells hb
 have z1:=cz 1
 have ei:((i+1:Nat) : Int)=(i:Int)+1:=by omega
 have h2:=h1.step hi
 rw[ei] at h2
 have f2:Fr [pb] (w.alloc (.cells #[.int .i64 0,.string ⟨#[]⟩,.int .i64 0,.int .i64 0,.int .i64 0] 82)) ((w.alloc (.cells #[.int .i64 0,.string ⟨#[]⟩,.int .i64 0,.int .i64 0,.int .i64 0] 82)).setCell ⟨pb,1,none⟩ (.int .i64 ((i:Int)+1))):=Fr.setCell (Fr.refl _ _) (.inl (by simp)) _
 have F2:Fr F w ((w.alloc (.cells #[.int .i64 0,.string ⟨#[]⟩,.int .i64 0,.int .i64 0,.int .i64 0] 82)).setCell ⟨pb,1,none⟩ (.int .i64 ((i:Int)+1))):=(F0.sub (by simp)).trans (f2.sub (fun k hk=>.inl (by simp at hk;subst hk;exact h.pf)))
 have hp2:((w.alloc (.cells #[.int .i64 0,.string ⟨#[]⟩,.int .i64 0,.int .i64 0,.int .i64 0] 82)).setCell ⟨pb,1,none⟩ (.int .i64 ((i:Int)+1))).heap[pb]? = some (.cells #[.slice (some ⟨tg,0,none⟩) ts.length tc,.int .i64 ((i:Int)+1),nv,.map (some bd),.map (some bs),.map (some bf)] 135 (0,0)):=by simp[World.setCell,Array.getElem?_modify,hb]
 obtain⟨e0,e1,_⟩:=pt_cells hp2
 have t0:=f2.cell1 t0 (by simpa using htp)
 have t1:=f2.cell1 t1 (by simpa using htp)
 have t2:=f2.cell1 t2 (by simpa using htp)
 have t3:=f2.cell1 t3 (by simpa using htp)
 have t4:=f2.cell1 t4 (by simpa using htp)
 have u2:=u0.fr f2 (by simp;omega)
 have HI:Hid (i+1<ts.length):=hi
 have hlI:(ts.length:Int)≤tc:=by omega
 have hltN:i<ts.length:=by omega
 have hw1:IntKind.i64.wrap ((i:Int)+1)=(i:Int)+1:=by rw[IntKind.wrap_i64];omega
 have hw2:IntKind.i64.wrap ((i:Int)+1-1)=(i:Int):=by rw[IntKind.wrap_i64];omega
 have hw3:(i:Int)+1-1=(i:Int):=by omega
 have hw4:IntKind.i64.wrap (i:Int)=(i:Int):=by rw[IntKind.wrap_i64];omega
 have hi0:(0:Int)≤(i:Int):=by omega
 unfold tokA
 generalize hW2:(w.alloc (.cells #[.int .i64 0,.string ⟨#[]⟩,.int .i64 0,.int .i64 0,.int .i64 0] 82)).setCell ⟨pb,1,none⟩ (.int .i64 ((i:Int)+1))=w2 at *
 have hpR:pb≠w.heap.size:=by omega
 have htR:tg≠w.heap.size:=by have:=HW.out _ htF;omega
 have r0:∀ w',Fr [w.heap.size] w2 w'→w'.cell? ⟨pb,0,none⟩=_:=fun w' f=>f.cell1 e0 (by simpa using hpR)
 have r1:∀ w',Fr [w.heap.size] w2 w'→w'.cell? ⟨pb,1,none⟩=_:=fun w' f=>f.cell1 e1 (by simpa using hpR)
 have s0:∀ w',Fr [w.heap.size] w2 w'→w'.cell? ⟨tg,i*5,none⟩=_:=fun w' f=>f.cell1 t0 (by simpa using htR)
 have s1:∀ w',Fr [w.heap.size] w2 w'→w'.cell? ⟨tg,i*5+1,none⟩=_:=fun w' f=>f.cell1 t1 (by simpa using htR)
 have s2:∀ w',Fr [w.heap.size] w2 w'→w'.cell? ⟨tg,i*5+2,none⟩=_:=fun w' f=>f.cell1 t2 (by simpa using htR)
 have s3:∀ w',Fr [w.heap.size] w2 w'→w'.cell? ⟨tg,i*5+3,none⟩=_:=fun w' f=>f.cell1 t3 (by simpa using htR)
 have s4:∀ w',Fr [w.heap.size] w2 w'→w'.cell? ⟨tg,i*5+4,none⟩=_:=fun w' f=>f.cell1 t4 (by simpa using htR)
 have f0:Fr [w.heap.size] w2 w2:=Fr.refl _ _
 have hmR:w.heap.size∈[w.heap.size]∨w2.heap.size≤w.heap.size:=.inl (by simp)
 clear t0 t1 t2 t3 t4 e0 e1 hb hp2 h1
 generalize tk ts i=t at *
 obtain⟨k,tx,fr,to,n⟩:=t
 simp only at *
 go_enter Tryz.func157,Tryz.ntmps157
 have d0:=u2.c0
 have d1:=u2.c1
 have d2:=u2.c2
 have d3:=u2.c3
 have d4:=u2.c4
 have dz:=u2.fz
 have HR:Hid (w.heap.size∉F):=fun hm=>by have:=HW.out _ hm;omega
 have F3:=TB.fset (Fr.refl [w.heap.size] w2) (B:=w.heap.size) (.inl (by simp)) (.int .i64 (k:Nat)) (.string ⟨tx.toArray⟩) (.int .i64 (fr:Nat)) (.int .i64 (to:Nat)) (.int .i64 (n:Nat))
 have F3d:=F3.drew
 go_wp2
 go_region_held3 (fun w'=>Fr [w.heap.size] w2 w') (with_reducible (first | assumption | (refine Fr.drew ?_;assumption))) (fail)
 clear r0 r1 s0 s1 s2 s3 s4 d0 d1 d2 d3 d4 dz
 go_wp2
 have u3:=u2.set (.int .i64 (k:Nat)) (.string ⟨tx.toArray⟩) (.int .i64 (fr:Nat)) (.int .i64 (to:Nat)) (.int .i64 (n:Nat))
 have g0:=u3.c0
 have g1:=u3.c1
 have g2:=u3.c2
 have g3:=u3.c3
 have g4:=u3.c4
 have h3:=h2.fr F3d (fun j hj=>by simp at hj;subst hj;exact HR.out)
 have F4:Fr F w _:=((F2.sub (T:=w.heap.size::F) (fun k hk=>.inl (by simp[hk]))).trans (F3d.sub (fun k hk=>.inl (by simp at hk;simp[hk])))).sub (fun k hk=>by
  simp at hk
  rcases hk with rfl | hk
  ·exact .inr (Nat.le_refl _)
  ·exact .inl hk)
 refine bodyPost_ret (v:=.agg #[.int .i64 (k:Nat),.string ⟨tx.toArray⟩,.int .i64 (fr:Nat),.int .i64 (to:Nat),.int .i64 (n:Nat)]) ?_ rfl ⟨rfl,h3,F4⟩
 clear h3 F4 F3 F3d u3
 generalize ((((w2.setCell _ _).setCell _ _).setCell _ _).setCell _ _).setCell _ _=w3 at *
 simp[results,Tryz.results157,go_sem,g0,g1,g2,g3,g4]
def thrown (ts:List Tok) (k:Nat) : Ending:=.panicked [{ v:=.iface 131 (.agg #[.int .i64 ((tk ts k).frm:Nat)]),recovered:=false }]
set_option maxHeartbeats 1000000 in
theorem refuse_any {ts:List Tok} {B pb:Nat} {F:List Nat} {i:Nat} {ns:List PN} {w:World} (h:PS ts B pb F i ns w) :
 Calls Tryz.prog 170 #[.pointer (some ⟨pb,0,none⟩)] w fun e w'=>e=thrown ts i∧Fr [] w w' := by
 obtain⟨tg,tc,nv,bd,bs,bf,⟨hb,t0,t1,t2,t3,t4,hlen,hlc,hlt⟩,_,_⟩:=h.pt
 obtain⟨c0,c1,c2,c3,c4,c5,cz⟩:=pt_cells hb
 have hlt' : i<ts.length:=h.ti
 have hlI:(ts.length:Int)≤tc:=by omega
 unfold thrown
 clear hb h
 have F1:Fr [] w w.drew:=(Fr.refl _ _).drew
 clear c2 c3 c4 c5 t0 t1 t3 t4
 go_enter Tryz.func170,Tryz.ntmps170
 go_wp2
 go_region_dies
 all_goals (try go_wp2)
 all_goals exact⟨rfl,rfl,F1⟩
set_option maxHeartbeats 1000000 in
theorem passIf_yes {ts:List Tok} {B pb:Nat} {F:List Nat} {i:Nat} {ns:List PN} {w:World} (h:PS ts B pb F i ns w) (what:List UInt8) (hw:nx ts i=what) (hi:i+1<ts.length) :
 Calls Tryz.prog 166 #[.pointer (some ⟨pb,0,none⟩),.string ⟨what.toArray⟩] w fun e w'=>e = .returned (.bool true)∧PS ts B pb F (i+1) ns w'∧Fr F w w' := by
 have C1:=next_any h
 rw[hw] at C1
 go_enter Tryz.func166,Tryz.ntmps166
 go_wp2_with fail
 refine C1.mono ?_
 rintro e w1 ⟨rfl,f1⟩
 have C2:=pass_any (h.fr f1 (by simp)) hi
 go_wp2_with fail
 refine C2.mono ?_
 rintro e w2 ⟨rfl,h2,f2⟩
 go_wp2
 go_ret
 exact⟨rfl,h2,(f1.sub (by simp)).trans (f2.sub (fun k hk=>.inl hk))⟩
set_option maxHeartbeats 1000000 in
theorem passIf_no {ts:List Tok} {B pb:Nat} {F:List Nat} {i:Nat} {ns:List PN} {w:World} (h:PS ts B pb F i ns w) (what:List UInt8) (hw:nx ts i≠what) :
 Calls Tryz.prog 166 #[.pointer (some ⟨pb,0,none⟩),.string ⟨what.toArray⟩] w fun e w'=>e = .returned (.bool false)∧Fr [] w w' := by
 have C1:=next_any h
 have hne:(nx ts i == what)=false:=by simpa using hw
 clear hw
 generalize nx ts i=X at *
 go_enter Tryz.func166,Tryz.ntmps166
 go_wp2_with fail
 refine C1.mono ?_
 rintro e w1 ⟨rfl,f1⟩
 go_wp2
 go_ret
 exact⟨rfl,f1⟩
set_option maxHeartbeats 1000000 in
theorem want_yes {ts:List Tok} {B pb:Nat} {F:List Nat} {i:Nat} {ns:List PN} {w:World} (h:PS ts B pb F i ns w) (what:List UInt8) (hw:nx ts i=what) (hi:i+1<ts.length) :
 Calls Tryz.prog 158 #[.pointer (some ⟨pb,0,none⟩),.string ⟨what.toArray⟩] w fun e w'=>e = .returned (.agg (tokA (tk ts i)))∧PS ts B pb F (i+1) ns w'∧Fr F w w' := by
 have F0:Fr [] w (w.alloc (.cells #[.int .i64 0,.string ⟨#[]⟩,.int .i64 0,.int .i64 0,.int .i64 0] 82)):=(Fr.refl _ _).alloc _
 have u0:=TB.new w (.int .i64 0) (.string ⟨#[]⟩) (.int .i64 0) (.int .i64 0) (.int .i64 0)
 have HR:Hid (w.heap.size∉F):=fun hm=>by have:=(h.fb _ hm).2;omega
 have C1:=next_any (h.fr F0 (by simp))
 rw[hw] at C1
 have C2:=fun w1 (f:Fr [] w w1)=>pass_any (h.fr f (by simp)) hi
 unfold tokA at C2 ⊢
 generalize tk ts i=t at *
 obtain⟨k,tx,fr,to,n⟩:=t
 simp only at *
 go_enter Tryz.func158,Tryz.ntmps158
 go_wp2_with fail
 refine C1.mono ?_
 rintro e w1 ⟨rfl,f1⟩
 have u1:=u0.fr f1 (by simp)
 have F1:=F0.trans f1
 have C3:=C2 w1 F1
 clear C2
 go_wp2_with fail
 refine C3.mono ?_
 rintro e w2 ⟨rfl,h2,f2⟩
 have u2:=u1.fr f2 HR.out
 have d0:=u2.c0
 have d1:=u2.c1
 have d2:=u2.c2
 have d3:=u2.c3
 have d4:=u2.c4
 have dz:=u2.fz
 clear C1 C3 u0 u1
 go_wp2
 clear d0 d1 d2 d3 d4 dz
 have u3:=u2.set (.int .i64 (k:Nat)) (.string ⟨tx.toArray⟩) (.int .i64 (fr:Nat)) (.int .i64 (to:Nat)) (.int .i64 (n:Nat))
 have F3:=TB.fset (Fr.refl [w.heap.size] w2) (B:=w.heap.size) (.inl (by simp)) (.int .i64 (k:Nat)) (.string ⟨tx.toArray⟩) (.int .i64 (fr:Nat)) (.int .i64 (to:Nat)) (.int .i64 (n:Nat))
 have g0:=u3.c0
 have g1:=u3.c1
 have g2:=u3.c2
 have g3:=u3.c3
 have g4:=u3.c4
 have h3:=h2.fr F3 (fun j hj=>by simp at hj;subst hj;exact HR.out)
 have F4:Fr F w _:=(((F1.sub (T:=w.heap.size::F) (by simp)).trans (f2.sub (fun k hk=>.inl (by simp[hk])))).trans (F3.sub (fun k hk=>.inl (by simp at hk;simp[hk])))).sub (fun k hk=>by
  simp at hk
  rcases hk with rfl | hk
  ·exact .inr (Nat.le_refl _)
  ·exact .inl hk)
 refine bodyPost_ret (v:=.agg #[.int .i64 (k:Nat),.string ⟨tx.toArray⟩,.int .i64 (fr:Nat),.int .i64 (to:Nat),.int .i64 (n:Nat)]) ?_ rfl ⟨rfl,h3,F4⟩
 clear h3 F4 F3 u3
 generalize ((((w2.setCell _ _).setCell _ _).setCell _ _).setCell _ _).setCell _ _=w3 at *
 simp[results,Tryz.results158,go_sem,g0,g1,g2,g3,g4]
set_option maxHeartbeats 1000000 in
theorem want_no {ts:List Tok} {B pb:Nat} {F:List Nat} {i:Nat} {ns:List PN} {w:World} (h:PS ts B pb F i ns w) (what:List UInt8) (hw:nx ts i≠what) :
 Calls Tryz.prog 158 #[.pointer (some ⟨pb,0,none⟩),.string ⟨what.toArray⟩] w fun e w'=>e=thrown ts i∧Fr [] w w' := by
 have F0:Fr [] w (w.alloc (.cells #[.int .i64 0,.string ⟨#[]⟩,.int .i64 0,.int .i64 0,.int .i64 0] 82)):=(Fr.refl _ _).alloc _
 have C1:=next_any (h.fr F0 (by simp))
 have hne:(nx ts i == what)=false:=by simpa using hw
 clear hw
 generalize nx ts i=X at *
 unfold thrown
 go_enter Tryz.func158,Tryz.ntmps158
 go_wp2_with fail
 refine C1.mono ?_
 rintro e w1 ⟨rfl,f1⟩
 have F1:=F0.trans f1
 have C2:=refuse_any (h.fr F1 (by simp))
 unfold thrown at C2
 go_wp2_with fail
 refine C2.mono ?_
 rintro e w2 ⟨rfl,f2⟩
 exact⟨rfl,rfl,F1.trans f2⟩
structure KV (B:Nat) (w:World) (v:Value) (ks:List Nat) (G:List Nat) : Prop where
 ex:∃ a c,v = .slice a ks.length c∧(ks.length≤c∧c≤maxLen)∧(a=none→c=0)∧∀ (j k:Nat),ks[j]? = some k→∃ (b o:Nat) (cc:Array Value) (z:Nat×Nat),a=some ⟨b,o,none⟩∧b∈G∧w.heap[b]? = some (.cells cc 3 z)∧cc[o+j]? = some (.int .i64 (k:Nat))
 lo:∀ b∈G,B≤b∧b<w.heap.size
theorem KV.nil (B:Nat) (w:World) : KV B w (.slice none 0 0) [] []:=⟨⟨none,0,rfl,⟨by simp,Nat.zero_le _⟩,fun _=>rfl,fun j k h=>by simp at h⟩,by simp⟩
def ON (w:World) (B:Nat) (v:Value) (ks:List Nat) : Prop:=w.ownsRow B 3 1 v ks.length (ks.map (fun k=>Value.int .i64 (k:Nat)))
theorem ON.nil (w:World) (B:Nat) : ON w B (.slice none 0 0) []:=World.ownsRow_nil _ _ _ _
theorem ON.kv {w:World} {B:Nat} {v:Value} {ks:List Nat} (h:ON w B v ks) : KV B w v ks v.ownBlock.toList:=by
 refine⟨?_,fun b hb=>h.lt b (by simpa using hb)⟩
 obtain⟨h1,h2⟩:=h
 rcases h2 with ⟨e,h0⟩ | ⟨g,cap,cur,e,hb,hg,hc,hm,hs,ht⟩
 ·exact⟨none,0,by rw[h0];exact e,⟨by omega,Nat.zero_le _⟩,fun _=>rfl,fun j k hk=>by have:=(List.getElem?_eq_some_iff.1 hk).1;omega⟩
 ·refine⟨some ⟨g,0,none⟩,cap,e,⟨hc,hm⟩,(fun h=>by cases h),fun j k hk=>⟨g,0,cur,(0,0),rfl,by rw[e];simp[Value.ownBlock],hg,?_⟩⟩
  have hlt:=(List.getElem?_eq_some_iff.1 hk).1
  have:(cur.toList.take (ks.length*1))[j]? = (ks.map (fun k=>Value.int .i64 (k:Nat)))[j]? := by rw[ht]
  rw[List.getElem?_take_of_lt (by omega)] at this
  rw[Nat.zero_add]
  simpa [hk] using this
theorem ON.built (w:World) (B:Nat) (hB:B≤w.heap.size) (ks:List Nat) (hk:ks.length≤3) : ON (w.alloc (.cells (ks.map (fun k=>Value.int .i64 (k:Nat))).toArray 3)) B (.slice (some ⟨w.heap.size,0,none⟩) ks.length ks.length) ks:=by
 refine⟨by simp,.inr ⟨w.heap.size,ks.length,(ks.map (fun k=>Value.int .i64 (k:Nat))).toArray,rfl,hB,heap_alloc_new w _,Nat.le_refl _,by unfold maxLen;omega,by simp,?_⟩⟩
 simp[List.take_of_length_le]
theorem under23:Tryz.prog.underlying 23=some (.slice 55):=by kernel_rfl
theorem info37:(Tryz.prog.info? 55).map (fun i=>(i.zero,i.size,i.bytes))=some (some (.agg #[.int .i64 0,.string ⟨#[]⟩,.slice none 0 0,.int .i64 0]),4,56):=by kernel_rfl
set_option maxHeartbeats 2000000 in
theorem lay_any {ts:List Tok} {B pb:Nat} {F:List Nat} {i:Nat} {ns:List PN} {w:World} (h:PS ts B pb F i ns w) {v:Value} {ks G:List Nat} (hv:KV B w v ks G) (kind:Nat) (text:List UInt8) (pl:Nat) (hn:ns.length+1≤1000000) :
 Calls Tryz.prog 130 #[.pointer (some ⟨pb,0,none⟩),.int .i64 (kind:Nat),.string ⟨text.toArray⟩,.int .i64 (pl:Nat),v] w fun e w'=>e = .returned (.int .i64 (ns.length:Nat))∧∃ F',PS ts B pb F' i (ns++[⟨kind,text,ks,pl⟩]) w'∧Fr F w w'∧∀ k∈F',k∈F∨k∈G∨w.heap.size≤k:=by
 obtain⟨i5,hi,hz,hz1,hby⟩:=info_parts info37
 obtain⟨tg,tc,nv,bd,bs,bf,L,h1,h2,h3,⟨c,z,h4,h4'⟩,h5,h6,h7,h8,h9,h10,h11,h12,h13,h14⟩:=h.ex
 obtain⟨ka,kc,rfl,k2,k3,k4⟩:=hv.ex
 have HL:Hid (L.length=ns.length):=by unfold Hid;rw[← h11];simp
 obtain⟨c0,c1,c2,c3,c4,c5,cz⟩:=pt_cells h1
 have hpb:=h.fb pb h.pf
 have HB:Hid (B≤w.heap.size):=by unfold Hid;omega
 have hnew:∀ j u,[Value.int .i64 (kind:Nat),.string ⟨text.toArray⟩,.slice ka ks.length kc,.int .i64 (pl:Nat)][j]? = some u→(w.alloc (.cells #[.int .i64 (kind:Nat),.string ⟨text.toArray⟩,.slice ka ks.length kc,.int .i64 (pl:Nat)] 55)).cell? ((⟨w.heap.size,0,none⟩ : Addr).add j)=some u:=by
  intro j u hu
  have hadd:(⟨w.heap.size,0,none⟩ : Addr).add j = ⟨w.heap.size,j,none⟩:=by unfold Addr.add;split <;> simp_all
  rw[hadd]
  exact at_cells (heap_alloc_new w _) j (by simpa using hu)
 have hLn:Hid (L.length+1≤1000000):=by have:=HL.out;unfold Hid;omega
 obtain⟨na,nc,rfl,_⟩:=own_slice h12
 go_enter Tryz.func130,Tryz.ntmps130
 go_wp2_with (at_builtin;refine wpList_append_own_at _ rfl _ _ 23 rfl B 55 i5 (.agg #[.int .i64 0,.string ⟨#[]⟩,.slice none 0 0,.int .i64 0]) 4 56 under23 hi hz hz1 hby rfl (by decide) (.slice na L.length nc) L.length (flatM L) rfl (h12.alloc _) ⟨w.heap.size,0,none⟩ 1 1 [.int .i64 (kind:Nat),.string ⟨text.toArray⟩,.slice ka ks.length kc,.int .i64 (pl:Nat)] rfl rfl hnew (by simp[Value.oneCell']) (by have:=hLn.out;unfold maxLen;omega) (by have:=hLn.out;omega) (by have:=HB.out;simp;omega) ?_)
 intro v1 w3 hown1 hgrow hnil hloc
 have f2:Fr (Value.slice na L.length nc).ownBlock.toList w w3:=((Fr.refl _ _).alloc _).trans ((Fr.ofGrown hgrow).sub (fun k hk=>.inl hk))
 have kp2:∀ {k:Nat} {o:Obj},(Value.slice na L.length nc).ownBlock≠some k→w.heap[k]? = some o→w3.heap[k]? = some o:=fun hk h=>(f2.block _ (Array.getElem?_eq_some_iff.1 h).1 (by simpa using hk)).trans h
 have hp3:=kp2 (own_ne h12 h1 (by decide)) h1
 obtain⟨d0,d1,d2,d3,d4,d5,dz⟩:=pt_cells hp3
 have dz2:=dz 2
 have hl3:Hid (∀ k,v1.ownBlock=some k→(Value.slice na L.length nc).ownBlock=some k∨w.heap.size≤k):=fun k hk=>by
  rcases hloc with e | e
  ·exact .inl (by rw[← e];exact hk)
  ·rw[e] at hk;simp at hk;exact .inr (by omega)
 obtain⟨va,vc,rfl,_⟩:=own_slice hown1
 have hp4:(w3.setCell ⟨pb,2,none⟩ (.slice va (L.length+1) vc)).heap[pb]? = some (.cells #[.slice (some ⟨tg,0,none⟩) ts.length tc,.int .i64 (i:Nat),.slice va (L.length+1) vc,.map (some bd),.map (some bs),.map (some bf)] 135 (0,0)):=by simp[World.setCell,Array.getElem?_modify,hp3]
 obtain⟨g0,g1,g2,g3,g4,g5,gz⟩:=pt_cells hp4
 have hLI:(L.length:Int)+1≤1000000:=by have:=hLn.out;omega
 clear c0 c1 c2 c3 c4 c5 cz hnew hgrow hnil hloc dz gz d0 d1 d3 d4 d5 g0 g1 g3 g4 g5
 go_wp2
 go_ret
 have f3:Fr [pb] w3 (w3.setCell ⟨pb,2,none⟩ (.slice va (L.length+1) vc)):=Fr.setCell (Fr.refl _ _) (.inl (by simp)) _
 have kp:∀ {k:Nat} {o:Obj},k≠pb→(Value.slice na L.length nc).ownBlock≠some k→w.heap[k]? = some o→(w3.setCell ⟨pb,2,none⟩ (.slice va (L.length+1) vc)).heap[k]? = some o:=fun hk hk2 h=>(f3.block _ (Array.getElem?_eq_some_iff.1 (kp2 hk2 h)).1 (by simpa using hk)).trans (kp2 hk2 h)
 have FF:Fr F w (w3.setCell ⟨pb,2,none⟩ (.slice va (L.length+1) vc)):=(f2.sub (fun k hk=>.inl (h13 k (by simpa using hk)))).trans (f3.sub (fun k hk=>.inl (by simp at hk;subst hk;exact h.pf)))
 have kr:∀ {b:Nat} {cc:Array Value} {zz:Nat×Nat},w.heap[b]? = some (.cells cc 3 zz)→(w3.setCell ⟨pb,2,none⟩ (.slice va (L.length+1) vc)).heap[b]? = some (.cells cc 3 zz):=fun hb=>kp (fun e=>by rw[e,h1] at hb;simp at hb) (own_ne h12 hb (by decide)) hb
 have km:∀ {g:Nat} {l:List (List UInt8×Nat)},RM w g l→RM (w3.setCell ⟨pb,2,none⟩ (.slice va (L.length+1) vc)) g l:=fun hr=>by
  have hr' := hr
  unfold RM at hr' ⊢
  exact kp (fun e=>by rw[e,h1] at hr';simp at hr') (own_notloop h12 hr' (by intro c t z e;cases e)) hr'
 refine⟨by rw[← HL.out];rfl,F++G++(Value.slice va (L.length+1) vc).ownBlock.toList,⟨⟨tg,tc,_,bd,bs,bf,L++[⟨⟨kind,text,ks,pl⟩,ka,kc⟩],hp4,h2,by simp[h3],⟨c,z,kp (fun e=>by rw[e,h1] at h4;simp at h4) (own_ne h12 h4 (by decide)) h4,h4'⟩,by simp[h5],km h6,by simp[h7],km h8,by simp[h9],km h10,by simp[h11],?_,fun k hk=>by simp[hk],?_⟩,by simp[h.pf],?_,h.lo,h.tl,h.ti⟩,FF,?_⟩
 ·have e1:(L++[(⟨⟨kind,text,ks,pl⟩,ka,kc⟩ : MN)]).length=L.length+1:=by simp
  rw[e1,flatM_append]
  have:=own_fr hown1 f3 (fun k hk hm=>by simp at hm;subst hm;exact own_ne hown1 hp3 (by decide) hk)
  simpa [flatM,MN.cells] using this
 ·intro m hm
  rcases List.mem_append.1 hm with hm | hm
  ·obtain⟨q1,q2,q3⟩:=h14 m hm
   refine⟨q1,q2,fun j k hk=>?_⟩
   obtain⟨b,o,cc,zz,e1,e2,e3,e4⟩:=q3 j k hk
   exact⟨b,o,cc,zz,e1,by simp[e2],kr e3,e4⟩
  ·simp at hm
   subst hm
   refine⟨k2,k3,fun j k hk=>?_⟩
   obtain⟨b,o,cc,zz,e1,e2,e3,e4⟩:=k4 j k hk
   exact⟨b,o,cc,zz,e1,by simp[e2],kr e3,e4⟩
 ·intro j hj
  have hsz:=FF.size
  simp only[List.mem_append,Option.mem_toList] at hj
  rcases hj with (hj | hj) | hj
  ·have:=h.fb j hj;omega
  ·have:=hv.lo j hj;omega
  ·have:=hown1.lt j hj;simp;omega
 ·intro k hk
  simp only[List.mem_append,Option.mem_toList] at hk
  rcases hk with (hk | hk) | hk
  ·exact .inl hk
  ·exact .inr (.inl hk)
  ·rcases hl3.out k hk with hk | hk
   ·exact .inl (h13 k hk)
   ·exact .inr (.inr hk)
structure Tr (F:List Nat) (w:World) (F' : List Nat) (w' : World) : Prop where
 f:Fr F w w'
 s:∀ k∈F',k∈F∨w.heap.size≤k
theorem Tr.trans {F F1 F2:List Nat} {w w1 w2:World} (h:Tr F w F1 w1) (k:Tr F1 w1 F2 w2) : Tr F w F2 w2:=by
 have hs:∀ j∈F1,j∈F∨w.heap.size≤j:=h.s
 refine⟨⟨k.f.os.trans h.f.os,k.f.tape.trans h.f.tape,k.f.output.trans h.f.output,Nat.le_trans h.f.size k.f.size,fun j hj hF=>?_⟩,fun j hj=>?_⟩
 ·rw[k.f.block j (Nat.lt_of_lt_of_le hj h.f.size) (fun hm=>by rcases hs j hm with h1 | h1;exact hF h1;omega)]
  exact h.f.block j hj hF
 ·rcases k.s j hj with h1 | h1
  ·exact hs j h1
  ·have:=h.f.size
   exact .inr (by omega)
theorem Tr.of {F:List Nat} {w w' : World} (f:Fr F w w') : Tr F w F w' := ⟨f,fun k hk=>.inl hk⟩
theorem Tr.of0 {F:List Nat} {w w' : World} (f:Fr [] w w') : Tr F w F w' := ⟨f.sub (by simp),fun k hk=>.inl hk⟩
theorem Tr.refl (F:List Nat) (w:World) : Tr F w F w:=Tr.of (Fr.refl _ _)
theorem Tr.ends {F F1:List Nat} {w w1 w2:World} (h:Tr F w F1 w1) (k:Fr F1 w1 w2) : Fr F w w2:=(h.trans (Tr.of k)).f
def PostS (ts:List Tok) (B pb:Nat) (F:List Nat) (w:World) : Except Nat (List Nat×Nat×List PN)→Ending→World→Prop
 | .ok (v,j,ms),e,w'=>e = .returned (.int .i64 (hd v:Nat))∧∃ F',PS ts B pb F' j ms w'∧Tr F w F' w'
 | .error k,e,w'=>e=thrown ts k∧Fr F w w'
def PostL (ts:List Tok) (B pb:Nat) (F:List Nat) (w:World) : Except Nat (List Nat×Nat×List PN)→Ending→World→Prop
 | .ok (v,j,ms),e,w'=>∃ u F',e = .returned u∧ON w' B u v∧(∀ k,u.ownBlock=some k→k∉F'∧w.heap.size≤k)∧PS ts B pb F' j ms w'∧Tr F w F' w'
 | .error k,e,w'=>e=thrown ts k∧Fr F w w'
theorem bindR_some {r0:R} {k:List Nat→Nat→List PN→R} {r:Except Nat (List Nat×Nat×List PN)} (h:bindR r0 k=some r) : (∃ e,r0=some (.error e)∧r = .error e)∨∃ v j ms,r0=some (.ok (v,j,ms))∧k v j ms=some r:=by
 cases r0 with
 | none=>cases h
 | some x =>
   cases x with
   | error e=>cases h;exact .inl ⟨e,rfl,rfl⟩
   | ok x=>obtain⟨v,j,ms⟩:=x;exact .inr ⟨v,j,ms,rfl,h⟩
def ptr (pb:Nat) : Value:=.pointer (some ⟨pb,0,none⟩)
def Ctr (ts:List Tok) (B pb:Nat) (F:List Nat) (w:World) (r:Except Nat (List Nat×Nat×List PN)) : NT→Prop
 | .prog=>Calls Tryz.prog 77 #[ptr pb] w (PostS ts B pb F w r)
 | .decl=>∀ g,RM w g declM→Calls Tryz.prog 129 #[ptr pb,.map (some g)] w (PostS ts B pb F w r)
 | .first=>∀ g,RM w g firstM→Calls Tryz.prog 129 #[ptr pb,.map (some g)] w (PostS ts B pb F w r)
 | .recd=>Calls Tryz.prog 107 #[ptr pb] w (PostS ts B pb F w r)
 | .func=>Calls Tryz.prog 108 #[ptr pb] w (PostS ts B pb F w r)
 | .name=>Calls Tryz.prog 160 #[ptr pb] w (PostS ts B pb F w r)
 | .block _=>Calls Tryz.prog 161 #[ptr pb] w (PostS ts B pb F w r)
 | .stmt=>Calls Tryz.prog 184 #[ptr pb] w (PostS ts B pb F w r)
 | .letS=>Calls Tryz.prog 109 #[ptr pb] w (PostS ts B pb F w r)
 | .choice=>Calls Tryz.prog 110 #[ptr pb] w (PostS ts B pb F w r)
 | .other=>Calls Tryz.prog 163 #[ptr pb] w (PostS ts B pb F w r)
 | .whileS=>Calls Tryz.prog 111 #[ptr pb] w (PostS ts B pb F w r)
 | .worded k=>Calls Tryz.prog 164 #[ptr pb,.int .i64 (k:Nat)] w (PostS ts B pb F w r)
 | .merge=>Calls Tryz.prog 115 #[ptr pb] w (PostS ts B pb F w r)
 | .setOrDo=>Calls Tryz.prog 205 #[ptr pb] w (PostS ts B pb F w r)
 | .setS p=>Calls Tryz.prog 225 #[ptr pb,.int .i64 (p:Nat)] w (PostS ts B pb F w r)
 | .expr=>Calls Tryz.prog 162 #[ptr pb] w (PostS ts B pb F w r)
 | .chain l=>Calls Tryz.prog 185 #[ptr pb,.int .i64 (l:Nat)] w (PostS ts B pb F w r)
 | .joined n l=>Calls Tryz.prog 187 #[ptr pb,.int .i64 (n:Nat),.int .i64 (l:Nat)] w (PostS ts B pb F w r)
 | .signed=>Calls Tryz.prog 206 #[ptr pb] w (PostS ts B pb F w r)
 | .back=>Calls Tryz.prog 223 #[ptr pb] w (PostS ts B pb F w r)
 | .field n=>Calls Tryz.prog 230 #[ptr pb,.int .i64 (n:Nat)] w (PostS ts B pb F w r)
 | .elem n=>Calls Tryz.prog 231 #[ptr pb,.int .i64 (n:Nat)] w (PostS ts B pb F w r)
 | .number=>Calls Tryz.prog 116 #[ptr pb] w (PostS ts B pb F w r)
 | .nameOrCall=>Calls Tryz.prog 117 #[ptr pb] w (PostS ts B pb F w r)
 | .made=>Calls Tryz.prog 120 #[ptr pb] w (PostS ts B pb F w r)
 | .alone k=>Calls Tryz.prog 167 #[ptr pb,.int .i64 (k:Nat)] w (PostS ts B pb F w r)
 | .empty k=>Calls Tryz.prog 169 #[ptr pb,.int .i64 (k:Nat)] w (PostS ts B pb F w r)
 | .about k=>Calls Tryz.prog 168 #[ptr pb,.int .i64 (k:Nat)] w (PostS ts B pb F w r)
 | .brack=>Calls Tryz.prog 127 #[ptr pb] w (PostS ts B pb F w r)
 | .listed thing closing=>Calls Tryz.prog 159 #[ptr pb,.func (.func (if thing then 162 else 160)) #[] #[],.string ⟨closing.toArray⟩] w (PostL ts B pb F w r)
 | _=>True
def Hyp (ts:List Tok) (B pb f:Nat) : Prop:=∀ (g:Nat) (nt:NT) (i:Nat) (ns:List PN) (w:World) (F:List Nat) (r:Except Nat (List Nat×Nat×List PN)),g≤f→PS ts B pb F i ns w→Tabs w→preN ts i ns nt→ns.length≤2*i+1→P ts g nt i ns=some r→Ctr ts B pb F w r nt
theorem PS.tabs {ts:List Tok} {B pb:Nat} {F:List Nat} {i:Nat} {ns:List PN} {w w' : World} (h:PS ts B pb F i ns w) (T:Tabs w) (f:Fr F w w') : Tabs w' := T.fr f (fun k hk=>by have:=h.fb k hk;have:=h.lo;omega)
theorem run_ok {ts:List Tok} (hT:Toks ts) {g:Nat} {nt:NT} {i:Nat} {ns:List PN} {v:List Nat} {j:Nat} {ms:List PN} (hi:i<ts.length) (hp:preN ts i ns nt) (h:P ts g nt i ns=some (.ok (v,j,ms))) : i+consN nt≤j∧j<ts.length∧ns.length≤ms.length∧ms.length≤ns.length+2*(j-i)+slack nt∧(single nt=true→∃ n,v = [n]∧n<ms.length):=(good hT g nt i ns hi hp).2.2 v j ms h
theorem Tr.notin {F F' : List Nat} {w w' : World} {b:Nat} (h:Tr F w F' w') (hb:b∉F) (hw:b<w.heap.size) : b∉F' := fun hm=>by
 rcases h.s b hm with h1 | h1
 ·exact hb h1
 ·omega
theorem wantR_no {ts:List Tok} {what:List UInt8} {i:Nat} {k:R} (h:¬ nx ts i=what) : wantR ts what i k=some (.error i):=if_neg h
theorem wantR_yes {ts:List Tok} {what:List UInt8} {i:Nat} {k:R} (h:nx ts i=what) : wantR ts what i k=k:=if_pos h
theorem fld2 (a b c d:Int) (s:ByteArray) (W:World) : (Instr.field 82 (.agg #[.int .i64 a,.string s,.int .i64 b,.int .i64 c,.int .i64 d]) 2).run Tryz.prog W = .ok (.int .i64 b) W:=by kernel_rfl
theorem own_mem {g n c k:Nat} (h:k∈(Value.slice (some ⟨g,0,none⟩) n c).ownBlock.toList) : k=g:=by
 simp[Value.ownBlock] at h
 first | exact h | exact h.symm
theorem lay_tr {F F1 G Fz:List Nat} {w w1 wz:World} (t:Tr F w F1 w1) (fz:Fr F1 w1 wz) (sz:∀ k∈Fz,k∈F1∨k∈G∨w1.heap.size≤k) (LO:∀ k∈G,w.heap.size≤k) : Tr F w Fz wz :=
 ⟨t.ends fz,fun k hk=>by
  rcases sz k hk with h | h | h
  ·exact t.s k h
  ·exact .inr (LO k h)
  ·have:=t.f.size
   exact .inr (by omega)⟩
set_option maxHeartbeats 2000000 in
theorem c_name {ts:List Tok} {B pb:Nat} (hT:Toks ts) {f i:Nat} {ns:List PN} {w:World} {F:List Nat} {r:Except Nat (List Nat×Nat×List PN)} (H:Hyp ts B pb f) (h0:PS ts B pb F i ns w) (T0:Tabs w) (hp:preN ts i ns (.name)) (hn:ns.length≤2*i+1) (hP:P ts (f+1) (.name) i ns=some r) : Ctr ts B pb F w r (.name):=by
 have hi:=h0.ti
 have HTL:Hid (ts.length≤200001):=h0.tl
 simp only[P] at hP
 have HP:Hid (_=some r):=hP
 clear hP
 simp only[Ctr,ptr]
 have t0:=Tr.refl F w
 have HF0:Hid (∀ k∈F,k<w.heap.size):=fun k hk=>(h0.fb k hk).2
 have HN:Hid (ns.length≤2*i+1):=hn
 clear hn
 by_cases e1:nx ts (i)=nmB
 rotate_left
 ·have hP:=HP.out
  rw[wantR_no e1] at hP
  have C1:=want_no h0 nmB e1
  unfold thrown at C1
  unfold nmB at C1
  cases hP
  go_enter Tryz.func160,Tryz.ntmps160
  go_wp2_with fail
  refine C1.mono ?_
  rintro e w1 ⟨rfl,f1⟩
  exact⟨rfl,rfl,t0.ends (f1.sub (by simp))⟩
 have q1:=hT.more hi (show nx ts (i)≠[] by rw[e1];decide)
 have hP:=HP.out
 rw[wantR_yes e1] at hP
 have HP:Hid (_=some r):=hP
 clear hP
 have C1:=want_yes h0 nmB e1 q1
 unfold tokA at C1
 unfold nmB at C1
 clear e1
 go_enter Tryz.func160,Tryz.ntmps160
 go_wp2_with fail
 refine C1.mono ?_
 rintro e w1 ⟨rfl,h1,f1⟩
 clear C1
 have s1:=Tr.of f1
 have t1:=t0.trans s1
 have T1:=h0.tabs T0 f1
 have h1:PS ts B pb F (i+1) ns w1:=h1
 have q1:i+1<ts.length:=q1
 have g2:Fr [] w1 (w1.alloc (.cells #[.int .i64 ((tk ts (i)).kind:Nat),.string ⟨(tk ts (i)).text.toArray⟩,.int .i64 ((tk ts (i)).frm:Nat),.int .i64 ((tk ts (i)).to:Nat),.int .i64 ((tk ts (i)).n:Nat)] 82)):=(Fr.refl _ _).alloc _
 have v2:=TB.new w1 (.int .i64 ((tk ts (i)).kind:Nat)) (.string ⟨(tk ts (i)).text.toArray⟩) (.int .i64 ((tk ts (i)).frm:Nat)) (.int .i64 ((tk ts (i)).to:Nat)) (.int .i64 ((tk ts (i)).n:Nat))
 have ni2:w1.heap.size∉F:=fun hm=>by have:=(h1.fb _ hm).2;omega
 have h2:=h1.fr g2 (by simp)
 have t2:=t1.trans (Tr.of0 g2)
 have T2:=T1.fr g2 (by simp)
 have hP:=HP.out
 cases hP
 have a0:=v2.c1
 have b0:=v2.c2
 have KV0:=KV.nil B (w1.alloc (.cells #[.int .i64 ((tk ts (i)).kind:Nat),.string ⟨(tk ts (i)).text.toArray⟩,.int .i64 ((tk ts (i)).frm:Nat),.int .i64 ((tk ts (i)).to:Nat),.int .i64 ((tk ts (i)).n:Nat)] 82))
 have LO:∀ k∈([] : List Nat),w.heap.size≤k:=by simp
 have CL:=lay_any h2 KV0 17 (tk ts i).text (tk ts i).frm (by have:=HN.out;have:=HTL.out;have:=q1;omega)
 go_wp2_with fail
 refine CL.mono ?_
 rintro e wz ⟨rfl,Fz,hz,fz,sz⟩
 have tz:Tr F w Fz wz:=lay_tr t2 fz sz LO
 go_wp2
 go_ret
 exact⟨rfl,Fz,hz,tz⟩
set_option maxHeartbeats 2000000 in
theorem c_recd {ts:List Tok} {B pb:Nat} (hT:Toks ts) {f i:Nat} {ns:List PN} {w:World} {F:List Nat} {r:Except Nat (List Nat×Nat×List PN)} (H:Hyp ts B pb f) (h0:PS ts B pb F i ns w) (T0:Tabs w) (hp:preN ts i ns (.recd)) (hn:ns.length≤2*i+1) (hP:P ts (f+1) (.recd) i ns=some r) : Ctr ts B pb F w r (.recd):=by
 have hi:=h0.ti
 have HTL:Hid (ts.length≤200001):=h0.tl
 simp only[P] at hP
 have HP:Hid (_=some r):=hP
 clear hP
 simp only[Ctr,ptr]
 have t0:=Tr.refl F w
 have HF0:Hid (∀ k∈F,k<w.heap.size):=fun k hk=>(h0.fb k hk).2
 have HN:Hid (ns.length≤2*i+1):=hn
 clear hn
 have q1:=hT.more hi hp
 have C1:=pass_any h0 q1
 unfold tokA at C1
 go_enter Tryz.func107,Tryz.ntmps107
 go_wp2_with fail
 refine C1.mono ?_
 rintro e w1 ⟨rfl,h1,f1⟩
 clear C1
 have s1:=Tr.of f1
 have t1:=t0.trans s1
 have T1:=h0.tabs T0 f1
 have h1:PS ts B pb F (i+1) ns w1:=h1
 have q1:i+1<ts.length:=q1
 have fl1:=fld2 ((tk ts (i)).kind:Nat) ((tk ts (i)).frm:Nat) ((tk ts (i)).to:Nat) ((tk ts (i)).n:Nat) ⟨(tk ts (i)).text.toArray⟩ w1
 by_cases e2:nx ts (i+1)=nmB
 rotate_left
 ·have hP:=HP.out
  rw[wantR_no e2] at hP
  have C2:=want_no h1 nmB e2
  unfold thrown at C2
  unfold nmB at C2
  cases hP
  go_wp2_with fail
  refine C2.mono ?_
  rintro e w2 ⟨rfl,f2⟩
  exact⟨rfl,rfl,t1.ends (f2.sub (by simp))⟩
 have q2:=hT.more q1 (show nx ts (i+1)≠[] by rw[e2];decide)
 have hP:=HP.out
 rw[wantR_yes e2] at hP
 have HP:Hid (_=some r):=hP
 clear hP
 have C2:=want_yes h1 nmB e2 q2
 unfold tokA at C2
 unfold nmB at C2
 clear e2
 go_wp2_with fail
 refine C2.mono ?_
 rintro e w2 ⟨rfl,h2,f2⟩
 clear C2
 have s2:=Tr.of f2
 have t2:=t1.trans s2
 have T2:=h1.tabs T1 f2
 have h2:PS ts B pb F (i+2) ns w2:=h2
 have q2:i+2<ts.length:=q2
 have g3:Fr [] w2 (w2.alloc (.cells #[.int .i64 ((tk ts (i+1)).kind:Nat),.string ⟨(tk ts (i+1)).text.toArray⟩,.int .i64 ((tk ts (i+1)).frm:Nat),.int .i64 ((tk ts (i+1)).to:Nat),.int .i64 ((tk ts (i+1)).n:Nat)] 82)):=(Fr.refl _ _).alloc _
 have v3:=TB.new w2 (.int .i64 ((tk ts (i+1)).kind:Nat)) (.string ⟨(tk ts (i+1)).text.toArray⟩) (.int .i64 ((tk ts (i+1)).frm:Nat)) (.int .i64 ((tk ts (i+1)).to:Nat)) (.int .i64 ((tk ts (i+1)).n:Nat))
 have ni3:w2.heap.size∉F:=fun hm=>by have:=(h2.fb _ hm).2;omega
 have h3:=h2.fr g3 (by simp)
 have t3:=t2.trans (Tr.of0 g3)
 have T3:=T2.fr g3 (by simp)
 by_cases e4:nx ts (i+2) = [123]
 rotate_left
 ·have hP:=HP.out
  rw[wantR_no e4] at hP
  have C4:=want_no h3 [123] e4
  unfold thrown at C4
  cases hP
  go_wp2_with fail
  refine C4.mono ?_
  rintro e w4 ⟨rfl,f4⟩
  exact⟨rfl,rfl,t3.ends (f4.sub (by simp))⟩
 have q4:=hT.more q2 (show nx ts (i+2)≠[] by rw[e4];decide)
 have hP:=HP.out
 rw[wantR_yes e4] at hP
 have HP:Hid (_=some r):=hP
 clear hP
 have C4:=want_yes h3 [123] e4 q4
 unfold tokA at C4
 clear e4
 go_wp2_with fail
 refine C4.mono ?_
 rintro e w4 ⟨rfl,h4,f4⟩
 clear C4
 have s4:=Tr.of f4
 have t4:=t3.trans s4
 have T4:=h3.tabs T3 f4
 have u0_4:=v3.fr f4 ni3
 have ni0_4:=Tr.notin s4 ni3 v3.lt
 have h4:PS ts B pb F (i+3) ns w4:=h4
 have q4:i+3<ts.length:=q4
 rcases bindR_some HP.out with ⟨er,hr,he⟩ | ⟨v5,j5,n5,hr,hP⟩
 ·subst he
  have C5:=H f (.listed false [125]) _ _ w4 _ _ (Nat.le_refl _) h4 T4 (by simp[preN]) (by have:=HN.out;omega) hr
  simp only[Ctr,ptr,if_true,Bool.false_eq_true,if_false] at C5
  go_wp2_with fail
  refine C5.mono ?_
  rintro e w5 ⟨rfl,f5⟩
  exact⟨rfl,rfl,t4.ends f5⟩
 obtain⟨o5a,o5b,o5c,o5d,_⟩:=run_ok hT (nt:=.listed false [125]) (ns:=ns) h4.ti (by simp[preN]) hr
 simp only[consN,slack] at o5a o5d
 have C5:=H f (.listed false [125]) _ _ w4 _ _ (Nat.le_refl _) h4 T4 (by simp[preN]) (by have:=HN.out;omega) hr
 simp only[Ctr,ptr,if_true,Bool.false_eq_true,if_false] at C5
 have HP:Hid (_=some r):=hP
 have B5:Hid (n5.length+5≤2*j5+0∧i<j5):=by have:=HN.out;unfold Hid;omega
 have q5:=o5b
 clear hP hr o5a o5b o5c o5d
 go_wp2_with fail
 refine C5.mono ?_
 rintro e w5 ⟨x5,F5,rfl,o5,y5,h5,s5⟩
 clear C5
 have f5:=s5.f
 have z5:Hid (∀ k,(x5:Value).ownBlock=some k→w.heap.size≤k):=fun k hk=>Nat.le_trans t4.f.size (y5 k hk).2
 have ny5:∀ k,(x5:Value).ownBlock=some k→k∉F5:=fun k hk=>(y5 k hk).1
 clear y5
 have t5:=t4.trans s5
 have T5:=h4.tabs T4 f5
 have u0_5:=u0_4.fr f5 ni0_4
 have ni0_5:=Tr.notin s5 ni0_4 u0_4.lt
 have hP:=HP.out
 cases hP
 have a0:=u0_5.c1
 have b0:=u0_5.c2
 obtain⟨xa,xc,hx,_⟩:=own_slice o5
 have KV0:=ON.kv o5
 have LO:∀ k∈(x5).ownBlock.toList,w.heap.size≤k:=fun k hk=>z5.out k (by simpa using hk)
 subst hx
 have CL:=lay_any h5 KV0 2 (tk ts (i+1)).text (tk ts (i+1)).frm (by have:=B5.out;have:=HTL.out;have:=q5;omega)
 go_wp2_with fail
 refine CL.mono ?_
 rintro e wz ⟨rfl,Fz,hz,fz,sz⟩
 have tz:Tr F w Fz wz:=lay_tr t5 fz sz LO
 go_wp2
 go_ret
 exact⟨rfl,Fz,hz,tz⟩
set_option maxHeartbeats 2000000 in
theorem c_letS {ts:List Tok} {B pb:Nat} (hT:Toks ts) {f i:Nat} {ns:List PN} {w:World} {F:List Nat} {r:Except Nat (List Nat×Nat×List PN)} (H:Hyp ts B pb f) (h0:PS ts B pb F i ns w) (T0:Tabs w) (hp:preN ts i ns (.letS)) (hn:ns.length≤2*i+1) (hP:P ts (f+1) (.letS) i ns=some r) : Ctr ts B pb F w r (.letS):=by
 have hi:=h0.ti
 have HTL:Hid (ts.length≤200001):=h0.tl
 simp only[P] at hP
 have HP:Hid (_=some r):=hP
 clear hP
 simp only[Ctr,ptr]
 have t0:=Tr.refl F w
 have HF0:Hid (∀ k∈F,k<w.heap.size):=fun k hk=>(h0.fb k hk).2
 have HN:Hid (ns.length≤2*i+1):=hn
 clear hn
 have q1:=hT.more hi hp
 have C1:=pass_any h0 q1
 unfold tokA at C1
 go_enter Tryz.func109,Tryz.ntmps109
 go_wp2_with fail
 refine C1.mono ?_
 rintro e w1 ⟨rfl,h1,f1⟩
 clear C1
 have s1:=Tr.of f1
 have t1:=t0.trans s1
 have T1:=h0.tabs T0 f1
 have h1:PS ts B pb F (i+1) ns w1:=h1
 have q1:i+1<ts.length:=q1
 have fl1:=fld2 ((tk ts (i)).kind:Nat) ((tk ts (i)).frm:Nat) ((tk ts (i)).to:Nat) ((tk ts (i)).n:Nat) ⟨(tk ts (i)).text.toArray⟩ w1
 by_cases e2:nx ts (i+1)=nmB
 rotate_left
 ·have hP:=HP.out
  rw[wantR_no e2] at hP
  have C2:=want_no h1 nmB e2
  unfold thrown at C2
  unfold nmB at C2
  cases hP
  go_wp2_with fail
  refine C2.mono ?_
  rintro e w2 ⟨rfl,f2⟩
  exact⟨rfl,rfl,t1.ends (f2.sub (by simp))⟩
 have q2:=hT.more q1 (show nx ts (i+1)≠[] by rw[e2];decide)
 have hP:=HP.out
 rw[wantR_yes e2] at hP
 have HP:Hid (_=some r):=hP
 clear hP
 have C2:=want_yes h1 nmB e2 q2
 unfold tokA at C2
 unfold nmB at C2
 clear e2
 go_wp2_with fail
 refine C2.mono ?_
 rintro e w2 ⟨rfl,h2,f2⟩
 clear C2
 have s2:=Tr.of f2
 have t2:=t1.trans s2
 have T2:=h1.tabs T1 f2
 have h2:PS ts B pb F (i+2) ns w2:=h2
 have q2:i+2<ts.length:=q2
 have g3:Fr [] w2 (w2.alloc (.cells #[.int .i64 ((tk ts (i+1)).kind:Nat),.string ⟨(tk ts (i+1)).text.toArray⟩,.int .i64 ((tk ts (i+1)).frm:Nat),.int .i64 ((tk ts (i+1)).to:Nat),.int .i64 ((tk ts (i+1)).n:Nat)] 82)):=(Fr.refl _ _).alloc _
 have v3:=TB.new w2 (.int .i64 ((tk ts (i+1)).kind:Nat)) (.string ⟨(tk ts (i+1)).text.toArray⟩) (.int .i64 ((tk ts (i+1)).frm:Nat)) (.int .i64 ((tk ts (i+1)).to:Nat)) (.int .i64 ((tk ts (i+1)).n:Nat))
 have ni3:w2.heap.size∉F:=fun hm=>by have:=(h2.fb _ hm).2;omega
 have h3:=h2.fr g3 (by simp)
 have t3:=t2.trans (Tr.of0 g3)
 have T3:=T2.fr g3 (by simp)
 by_cases e4:nx ts (i+2) = [61]
 rotate_left
 ·have hP:=HP.out
  rw[wantR_no e4] at hP
  have C4:=want_no h3 [61] e4
  unfold thrown at C4
  cases hP
  go_wp2_with fail
  refine C4.mono ?_
  rintro e w4 ⟨rfl,f4⟩
  exact⟨rfl,rfl,t3.ends (f4.sub (by simp))⟩
 have q4:=hT.more q2 (show nx ts (i+2)≠[] by rw[e4];decide)
 have hP:=HP.out
 rw[wantR_yes e4] at hP
 have HP:Hid (_=some r):=hP
 clear hP
 have C4:=want_yes h3 [61] e4 q4
 unfold tokA at C4
 clear e4
 go_wp2_with fail
 refine C4.mono ?_
 rintro e w4 ⟨rfl,h4,f4⟩
 clear C4
 have s4:=Tr.of f4
 have t4:=t3.trans s4
 have T4:=h3.tabs T3 f4
 have u0_4:=v3.fr f4 ni3
 have ni0_4:=Tr.notin s4 ni3 v3.lt
 have h4:PS ts B pb F (i+3) ns w4:=h4
 have q4:i+3<ts.length:=q4
 rcases bindR_some HP.out with ⟨er,hr,he⟩ | ⟨v5,j5,n5,hr,hP⟩
 ·subst he
  have C5:=H f (.expr) _ _ w4 _ _ (Nat.le_refl _) h4 T4 trivial (by have:=HN.out;omega) hr
  simp only[Ctr,ptr] at C5
  go_wp2_with fail
  refine C5.mono ?_
  rintro e w5 ⟨rfl,f5⟩
  exact⟨rfl,rfl,t4.ends f5⟩
 obtain⟨o5a,o5b,o5c,o5d,o5e⟩:=run_ok hT (nt:=.expr) (ns:=ns) h4.ti trivial hr
 simp only[consN,slack] at o5a o5d
 obtain⟨m5,rfl,hm5⟩:=o5e rfl
 have C5:=H f (.expr) _ _ w4 _ _ (Nat.le_refl _) h4 T4 trivial (by have:=HN.out;omega) hr
 simp only[Ctr,ptr] at C5
 have HP:Hid (_=some r):=hP
 have B5:Hid (n5.length+5≤2*j5+0∧i<j5):=by have:=HN.out;unfold Hid;omega
 have q5:=o5b
 clear hP hr o5a o5b o5c o5d o5e
 go_wp2_with fail
 refine C5.mono ?_
 rintro e w5 ⟨he,F5,h5,s5⟩
 obtain rfl:e = .returned (.int .i64 (m5:Nat)):=he
 clear C5
 have f5:=s5.f
 have t5:=t4.trans s5
 have T5:=h4.tabs T4 f5
 have u0_5:=u0_4.fr f5 ni0_4
 have ni0_5:=Tr.notin s5 ni0_4 u0_4.lt
 by_cases e6:nx ts (j5) = [59]
 rotate_left
 ·have hP:=HP.out
  rw[wantR_no e6] at hP
  have C6:=want_no h5 [59] e6
  unfold thrown at C6
  cases hP
  go_wp2_with fail
  refine C6.mono ?_
  rintro e w6 ⟨rfl,f6⟩
  exact⟨rfl,rfl,t5.ends (f6.sub (by simp))⟩
 have q6:=hT.more q5 (show nx ts (j5)≠[] by rw[e6];decide)
 have hP:=HP.out
 rw[wantR_yes e6] at hP
 have HP:Hid (_=some r):=hP
 clear hP
 have C6:=want_yes h5 [59] e6 q6
 unfold tokA at C6
 clear e6
 go_wp2_with fail
 refine C6.mono ?_
 rintro e w6 ⟨rfl,h6,f6⟩
 clear C6
 have s6:=Tr.of f6
 have t6:=t5.trans s6
 have T6:=h5.tabs T5 f6
 have u0_6:=u0_5.fr f6 ni0_5
 have ni0_6:=Tr.notin s6 ni0_5 u0_5.lt
 have h6:PS ts B pb F5 (j5+1) n5 w6:=h6
 have q6:j5+1<ts.length:=q6
 have hP:=HP.out
 cases hP
 have a0:=u0_6.c1
 have b0:=u0_6.c2
 have gb:Fr [] w6 (w6.alloc (.cells #[.int .i64 (m5:Nat)] 3)):=(Fr.refl _ _).alloc _
 have ob:ON (w6.alloc (.cells #[.int .i64 (m5:Nat)] 3)) B (.slice (some ⟨w6.heap.size,0,none⟩) 1 1) [m5]:=ON.built w6 B (by have:=h6.fb pb h6.pf;omega) [m5] (by simp)
 have KV0:=ON.kv ob
 have LO:∀ k∈(Value.slice (some ⟨w6.heap.size,0,none⟩) 1 1).ownBlock.toList,w.heap.size≤k:=fun k hk=>by rw[own_mem hk];exact t6.f.size
 have hb:=h6.fr gb (by simp)
 have tb:=t6.trans (Tr.of0 gb)
 have CL:=lay_any hb KV0 5 (tk ts (i+1)).text (tk ts (i+1)).frm (by have:=B5.out;have:=HTL.out;have:=q6;omega)
 go_wp2_with fail
 refine CL.mono ?_
 rintro e wz ⟨rfl,Fz,hz,fz,sz⟩
 have tz:Tr F w Fz wz:=lay_tr tb fz sz LO
 go_wp2
 go_ret
 exact⟨rfl,Fz,hz,tz⟩
set_option maxHeartbeats 2000000 in
theorem c_choice {ts:List Tok} {B pb:Nat} (hT:Toks ts) {f i:Nat} {ns:List PN} {w:World} {F:List Nat} {r:Except Nat (List Nat×Nat×List PN)} (H:Hyp ts B pb f) (h0:PS ts B pb F i ns w) (T0:Tabs w) (hp:preN ts i ns (.choice)) (hn:ns.length≤2*i+1) (hP:P ts (f+1) (.choice) i ns=some r) : Ctr ts B pb F w r (.choice):=by
 have hi:=h0.ti
 have HTL:Hid (ts.length≤200001):=h0.tl
 simp only[P] at hP
 have HP:Hid (_=some r):=hP
 clear hP
 simp only[Ctr,ptr]
 have t0:=Tr.refl F w
 have HF0:Hid (∀ k∈F,k<w.heap.size):=fun k hk=>(h0.fb k hk).2
 have HN:Hid (ns.length≤2*i+1):=hn
 clear hn
 have q1:=hT.more hi hp
 have C1:=pass_any h0 q1
 unfold tokA at C1
 go_enter Tryz.func110,Tryz.ntmps110
 go_wp2_with fail
 refine C1.mono ?_
 rintro e w1 ⟨rfl,h1,f1⟩
 clear C1
 have s1:=Tr.of f1
 have t1:=t0.trans s1
 have T1:=h0.tabs T0 f1
 have h1:PS ts B pb F (i+1) ns w1:=h1
 have q1:i+1<ts.length:=q1
 have fl1:=fld2 ((tk ts (i)).kind:Nat) ((tk ts (i)).frm:Nat) ((tk ts (i)).to:Nat) ((tk ts (i)).n:Nat) ⟨(tk ts (i)).text.toArray⟩ w1
 rcases bindR_some HP.out with ⟨er,hr,he⟩ | ⟨v2,j2,n2,hr,hP⟩
 ·subst he
  have C2:=H f (.expr) _ _ w1 _ _ (Nat.le_refl _) h1 T1 trivial (by have:=HN.out;omega) hr
  simp only[Ctr,ptr] at C2
  go_wp2_with fail
  refine C2.mono ?_
  rintro e w2 ⟨rfl,f2⟩
  exact⟨rfl,rfl,t1.ends f2⟩
 obtain⟨o2a,o2b,o2c,o2d,o2e⟩:=run_ok hT (nt:=.expr) (ns:=ns) h1.ti trivial hr
 simp only[consN,slack] at o2a o2d
 obtain⟨m2,rfl,hm2⟩:=o2e rfl
 have C2:=H f (.expr) _ _ w1 _ _ (Nat.le_refl _) h1 T1 trivial (by have:=HN.out;omega) hr
 simp only[Ctr,ptr] at C2
 have HP:Hid (_=some r):=hP
 have B2:Hid (n2.length+1≤2*j2+0∧i<j2):=by have:=HN.out;unfold Hid;omega
 have q2:=o2b
 clear hP hr o2a o2b o2c o2d o2e
 go_wp2_with fail
 refine C2.mono ?_
 rintro e w2 ⟨he,F2,h2,s2⟩
 obtain rfl:e = .returned (.int .i64 (m2:Nat)):=he
 clear C2
 have f2:=s2.f
 have t2:=t1.trans s2
 have T2:=h1.tabs T1 f2
 rcases bindR_some HP.out with ⟨er,hr,he⟩ | ⟨v3,j3,n3,hr,hP⟩
 ·subst he
  have C3:=H f (.block 0) _ _ w2 _ _ (Nat.le_refl _) h2 T2 trivial (by have:=B2.out;omega) hr
  simp only[Ctr,ptr] at C3
  go_wp2_with fail
  refine C3.mono ?_
  rintro e w3 ⟨rfl,f3⟩
  exact⟨rfl,rfl,t2.ends f3⟩
 obtain⟨o3a,o3b,o3c,o3d,o3e⟩:=run_ok hT (nt:=.block 0) (ns:=n2) h2.ti trivial hr
 simp only[consN,slack] at o3a o3d
 obtain⟨m3,rfl,hm3⟩:=o3e rfl
 have C3:=H f (.block 0) _ _ w2 _ _ (Nat.le_refl _) h2 T2 trivial (by have:=B2.out;omega) hr
 simp only[Ctr,ptr] at C3
 have HP:Hid (_=some r):=hP
 have B3:Hid (n3.length+1≤2*j3+0∧i<j3):=by have:=B2.out;unfold Hid;omega
 have q3:=o3b
 clear hP hr o3a o3b o3c o3d o3e
 go_wp2_with fail
 refine C3.mono ?_
 rintro e w3 ⟨he,F3,h3,s3⟩
 obtain rfl:e = .returned (.int .i64 (m3:Nat)):=he
 clear C3
 have f3:=s3.f
 have t3:=t2.trans s3
 have T3:=h2.tabs T2 f3
 rcases bindR_some HP.out with ⟨er,hr,he⟩ | ⟨v4,j4,n4,hr,hP⟩
 ·subst he
  have C4:=H f (.other) _ _ w3 _ _ (Nat.le_refl _) h3 T3 trivial (by have:=B3.out;omega) hr
  simp only[Ctr,ptr] at C4
  go_wp2_with fail
  refine C4.mono ?_
  rintro e w4 ⟨rfl,f4⟩
  exact⟨rfl,rfl,t3.ends f4⟩
 obtain⟨o4a,o4b,o4c,o4d,o4e⟩:=run_ok hT (nt:=.other) (ns:=n3) h3.ti trivial hr
 simp only[consN,slack] at o4a o4d
 obtain⟨m4,rfl,hm4⟩:=o4e rfl
 have C4:=H f (.other) _ _ w3 _ _ (Nat.le_refl _) h3 T3 trivial (by have:=B3.out;omega) hr
 simp only[Ctr,ptr] at C4
 have HP:Hid (_=some r):=hP
 have B4:Hid (n4.length+0≤2*j4+0∧i<j4):=by have:=B3.out;unfold Hid;omega
 have q4:=o4b
 clear hP hr o4a o4b o4c o4d o4e
 go_wp2_with fail
 refine C4.mono ?_
 rintro e w4 ⟨he,F4,h4,s4⟩
 obtain rfl:e = .returned (.int .i64 (m4:Nat)):=he
 clear C4
 have f4:=s4.f
 have t4:=t3.trans s4
 have T4:=h3.tabs T3 f4
 have hP:=HP.out
 cases hP
 have gb:Fr [] w4 (w4.alloc (.cells #[.int .i64 (m2:Nat),.int .i64 (m3:Nat),.int .i64 (m4:Nat)] 3)):=(Fr.refl _ _).alloc _
 have ob:ON (w4.alloc (.cells #[.int .i64 (m2:Nat),.int .i64 (m3:Nat),.int .i64 (m4:Nat)] 3)) B (.slice (some ⟨w4.heap.size,0,none⟩) 3 3) [m2,m3,m4]:=ON.built w4 B (by have:=h4.fb pb h4.pf;omega) [m2,m3,m4] (by simp)
 have KV0:=ON.kv ob
 have LO:∀ k∈(Value.slice (some ⟨w4.heap.size,0,none⟩) 3 3).ownBlock.toList,w.heap.size≤k:=fun k hk=>by rw[own_mem hk];exact t4.f.size
 have hb:=h4.fr gb (by simp)
 have tb:=t4.trans (Tr.of0 gb)
 have CL:=lay_any hb KV0 7 [] (tk ts (i)).frm (by have:=B4.out;have:=HTL.out;have:=q4;omega)
 go_wp2_with fail
 refine CL.mono ?_
 rintro e wz ⟨rfl,Fz,hz,fz,sz⟩
 have tz:Tr F w Fz wz:=lay_tr tb fz sz LO
 go_wp2
 go_ret
 exact⟨rfl,Fz,hz,tz⟩
set_option maxHeartbeats 2000000 in
theorem c_whileS {ts:List Tok} {B pb:Nat} (hT:Toks ts) {f i:Nat} {ns:List PN} {w:World} {F:List Nat} {r:Except Nat (List Nat×Nat×List PN)} (H:Hyp ts B pb f) (h0:PS ts B pb F i ns w) (T0:Tabs w) (hp:preN ts i ns (.whileS)) (hn:ns.length≤2*i+1) (hP:P ts (f+1) (.whileS) i ns=some r) : Ctr ts B pb F w r (.whileS):=by
 have hi:=h0.ti
 have HTL:Hid (ts.length≤200001):=h0.tl
 simp only[P] at hP
 have HP:Hid (_=some r):=hP
 clear hP
 simp only[Ctr,ptr]
 have t0:=Tr.refl F w
 have HF0:Hid (∀ k∈F,k<w.heap.size):=fun k hk=>(h0.fb k hk).2
 have HN:Hid (ns.length≤2*i+1):=hn
 clear hn
 have q1:=hT.more hi hp
 have C1:=pass_any h0 q1
 unfold tokA at C1
 go_enter Tryz.func111,Tryz.ntmps111
 go_wp2_with fail
 refine C1.mono ?_
 rintro e w1 ⟨rfl,h1,f1⟩
 clear C1
 have s1:=Tr.of f1
 have t1:=t0.trans s1
 have T1:=h0.tabs T0 f1
 have h1:PS ts B pb F (i+1) ns w1:=h1
 have q1:i+1<ts.length:=q1
 have fl1:=fld2 ((tk ts (i)).kind:Nat) ((tk ts (i)).frm:Nat) ((tk ts (i)).to:Nat) ((tk ts (i)).n:Nat) ⟨(tk ts (i)).text.toArray⟩ w1
 rcases bindR_some HP.out with ⟨er,hr,he⟩ | ⟨v2,j2,n2,hr,hP⟩
 ·subst he
  have C2:=H f (.expr) _ _ w1 _ _ (Nat.le_refl _) h1 T1 trivial (by have:=HN.out;omega) hr
  simp only[Ctr,ptr] at C2
  go_wp2_with fail
  refine C2.mono ?_
  rintro e w2 ⟨rfl,f2⟩
  exact⟨rfl,rfl,t1.ends f2⟩
 obtain⟨o2a,o2b,o2c,o2d,o2e⟩:=run_ok hT (nt:=.expr) (ns:=ns) h1.ti trivial hr
 simp only[consN,slack] at o2a o2d
 obtain⟨m2,rfl,hm2⟩:=o2e rfl
 have C2:=H f (.expr) _ _ w1 _ _ (Nat.le_refl _) h1 T1 trivial (by have:=HN.out;omega) hr
 simp only[Ctr,ptr] at C2
 have HP:Hid (_=some r):=hP
 have B2:Hid (n2.length+1≤2*j2+0∧i<j2):=by have:=HN.out;unfold Hid;omega
 have q2:=o2b
 clear hP hr o2a o2b o2c o2d o2e
 go_wp2_with fail
 refine C2.mono ?_
 rintro e w2 ⟨he,F2,h2,s2⟩
 obtain rfl:e = .returned (.int .i64 (m2:Nat)):=he
 clear C2
 have f2:=s2.f
 have t2:=t1.trans s2
 have T2:=h1.tabs T1 f2
 rcases bindR_some HP.out with ⟨er,hr,he⟩ | ⟨v3,j3,n3,hr,hP⟩
 ·subst he
  have C3:=H f (.block 0) _ _ w2 _ _ (Nat.le_refl _) h2 T2 trivial (by have:=B2.out;omega) hr
  simp only[Ctr,ptr] at C3
  go_wp2_with fail
  refine C3.mono ?_
  rintro e w3 ⟨rfl,f3⟩
  exact⟨rfl,rfl,t2.ends f3⟩
 obtain⟨o3a,o3b,o3c,o3d,o3e⟩:=run_ok hT (nt:=.block 0) (ns:=n2) h2.ti trivial hr
 simp only[consN,slack] at o3a o3d
 obtain⟨m3,rfl,hm3⟩:=o3e rfl
 have C3:=H f (.block 0) _ _ w2 _ _ (Nat.le_refl _) h2 T2 trivial (by have:=B2.out;omega) hr
 simp only[Ctr,ptr] at C3
 have HP:Hid (_=some r):=hP
 have B3:Hid (n3.length+1≤2*j3+0∧i<j3):=by have:=B2.out;unfold Hid;omega
 have q3:=o3b
 clear hP hr o3a o3b o3c o3d o3e
 go_wp2_with fail
 refine C3.mono ?_
 rintro e w3 ⟨he,F3,h3,s3⟩
 obtain rfl:e = .returned (.int .i64 (m3:Nat)):=he
 clear C3
 have f3:=s3.f
 have t3:=t2.trans s3
 have T3:=h2.tabs T2 f3
 have hP:=HP.out
 cases hP
 have gb:Fr [] w3 (w3.alloc (.cells #[.int .i64 (m2:Nat),.int .i64 (m3:Nat)] 3)):=(Fr.refl _ _).alloc _
 have ob:ON (w3.alloc (.cells #[.int .i64 (m2:Nat),.int .i64 (m3:Nat)] 3)) B (.slice (some ⟨w3.heap.size,0,none⟩) 2 2) [m2,m3]:=ON.built w3 B (by have:=h3.fb pb h3.pf;omega) [m2,m3] (by simp)
 have KV0:=ON.kv ob
 have LO:∀ k∈(Value.slice (some ⟨w3.heap.size,0,none⟩) 2 2).ownBlock.toList,w.heap.size≤k:=fun k hk=>by rw[own_mem hk];exact t3.f.size
 have hb:=h3.fr gb (by simp)
 have tb:=t3.trans (Tr.of0 gb)
 have CL:=lay_any hb KV0 8 [] (tk ts (i)).frm (by have:=B3.out;have:=HTL.out;have:=q3;omega)
 go_wp2_with fail
 refine CL.mono ?_
 rintro e wz ⟨rfl,Fz,hz,fz,sz⟩
 have tz:Tr F w Fz wz:=lay_tr tb fz sz LO
 go_wp2
 go_ret
 exact⟨rfl,Fz,hz,tz⟩
set_option maxHeartbeats 2000000 in
theorem c_worded {ts:List Tok} {B pb:Nat} (hT:Toks ts) {f i kk:Nat} {ns:List PN} {w:World} {F:List Nat} {r:Except Nat (List Nat×Nat×List PN)} (H:Hyp ts B pb f) (h0:PS ts B pb F i ns w) (T0:Tabs w) (hp:preN ts i ns (.worded kk)) (hn:ns.length≤2*i+1) (hP:P ts (f+1) (.worded kk) i ns=some r) : Ctr ts B pb F w r (.worded kk):=by
 have hi:=h0.ti
 have HTL:Hid (ts.length≤200001):=h0.tl
 simp only[P] at hP
 have HP:Hid (_=some r):=hP
 clear hP
 simp only[Ctr,ptr]
 have t0:=Tr.refl F w
 have HF0:Hid (∀ k∈F,k<w.heap.size):=fun k hk=>(h0.fb k hk).2
 have HN:Hid (ns.length≤2*i+1):=hn
 clear hn
 have q1:=hT.more hi hp
 have C1:=pass_any h0 q1
 unfold tokA at C1
 go_enter Tryz.func164,Tryz.ntmps164
 go_wp2_with fail
 refine C1.mono ?_
 rintro e w1 ⟨rfl,h1,f1⟩
 clear C1
 have s1:=Tr.of f1
 have t1:=t0.trans s1
 have T1:=h0.tabs T0 f1
 have h1:PS ts B pb F (i+1) ns w1:=h1
 have q1:i+1<ts.length:=q1
 have fl1:=fld2 ((tk ts (i)).kind:Nat) ((tk ts (i)).frm:Nat) ((tk ts (i)).to:Nat) ((tk ts (i)).n:Nat) ⟨(tk ts (i)).text.toArray⟩ w1
 rcases bindR_some HP.out with ⟨er,hr,he⟩ | ⟨v2,j2,n2,hr,hP⟩
 ·subst he
  have C2:=H f (.expr) _ _ w1 _ _ (Nat.le_refl _) h1 T1 trivial (by have:=HN.out;omega) hr
  simp only[Ctr,ptr] at C2
  go_wp2_with fail
  refine C2.mono ?_
  rintro e w2 ⟨rfl,f2⟩
  exact⟨rfl,rfl,t1.ends f2⟩
 obtain⟨o2a,o2b,o2c,o2d,o2e⟩:=run_ok hT (nt:=.expr) (ns:=ns) h1.ti trivial hr
 simp only[consN,slack] at o2a o2d
 obtain⟨m2,rfl,hm2⟩:=o2e rfl
 have C2:=H f (.expr) _ _ w1 _ _ (Nat.le_refl _) h1 T1 trivial (by have:=HN.out;omega) hr
 simp only[Ctr,ptr] at C2
 have HP:Hid (_=some r):=hP
 have B2:Hid (n2.length+1≤2*j2+0∧i<j2):=by have:=HN.out;unfold Hid;omega
 have q2:=o2b
 clear hP hr o2a o2b o2c o2d o2e
 go_wp2_with fail
 refine C2.mono ?_
 rintro e w2 ⟨he,F2,h2,s2⟩
 obtain rfl:e = .returned (.int .i64 (m2:Nat)):=he
 clear C2
 have f2:=s2.f
 have t2:=t1.trans s2
 have T2:=h1.tabs T1 f2
 by_cases e3:nx ts (j2) = [59]
 rotate_left
 ·have hP:=HP.out
  rw[wantR_no e3] at hP
  have C3:=want_no h2 [59] e3
  unfold thrown at C3
  cases hP
  go_wp2_with fail
  refine C3.mono ?_
  rintro e w3 ⟨rfl,f3⟩
  exact⟨rfl,rfl,t2.ends (f3.sub (by simp))⟩
 have q3:=hT.more q2 (show nx ts (j2)≠[] by rw[e3];decide)
 have hP:=HP.out
 rw[wantR_yes e3] at hP
 have HP:Hid (_=some r):=hP
 clear hP
 have C3:=want_yes h2 [59] e3 q3
 unfold tokA at C3
 clear e3
 go_wp2_with fail
 refine C3.mono ?_
 rintro e w3 ⟨rfl,h3,f3⟩
 clear C3
 have s3:=Tr.of f3
 have t3:=t2.trans s3
 have T3:=h2.tabs T2 f3
 have h3:PS ts B pb F2 (j2+1) n2 w3:=h3
 have q3:j2+1<ts.length:=q3
 have hP:=HP.out
 cases hP
 have gb:Fr [] w3 (w3.alloc (.cells #[.int .i64 (m2:Nat)] 3)):=(Fr.refl _ _).alloc _
 have ob:ON (w3.alloc (.cells #[.int .i64 (m2:Nat)] 3)) B (.slice (some ⟨w3.heap.size,0,none⟩) 1 1) [m2]:=ON.built w3 B (by have:=h3.fb pb h3.pf;omega) [m2] (by simp)
 have KV0:=ON.kv ob
 have LO:∀ k∈(Value.slice (some ⟨w3.heap.size,0,none⟩) 1 1).ownBlock.toList,w.heap.size≤k:=fun k hk=>by rw[own_mem hk];exact t3.f.size
 have hb:=h3.fr gb (by simp)
 have tb:=t3.trans (Tr.of0 gb)
 have CL:=lay_any hb KV0 kk [] (tk ts (i)).frm (by have:=B2.out;have:=HTL.out;have:=q3;omega)
 go_wp2_with fail
 refine CL.mono ?_
 rintro e wz ⟨rfl,Fz,hz,fz,sz⟩
 have tz:Tr F w Fz wz:=lay_tr tb fz sz LO
 go_wp2
 go_ret
 exact⟨rfl,Fz,hz,tz⟩
set_option maxHeartbeats 2000000 in
theorem c_merge {ts:List Tok} {B pb:Nat} (hT:Toks ts) {f i:Nat} {ns:List PN} {w:World} {F:List Nat} {r:Except Nat (List Nat×Nat×List PN)} (H:Hyp ts B pb f) (h0:PS ts B pb F i ns w) (T0:Tabs w) (hp:preN ts i ns (.merge)) (hn:ns.length≤2*i+1) (hP:P ts (f+1) (.merge) i ns=some r) : Ctr ts B pb F w r (.merge):=by
 have hi:=h0.ti
 have HTL:Hid (ts.length≤200001):=h0.tl
 simp only[P] at hP
 have HP:Hid (_=some r):=hP
 clear hP
 simp only[Ctr,ptr]
 have t0:=Tr.refl F w
 have HF0:Hid (∀ k∈F,k<w.heap.size):=fun k hk=>(h0.fb k hk).2
 have HN:Hid (ns.length≤2*i+1):=hn
 clear hn
 have q1:=hT.more hi hp
 have C1:=pass_any h0 q1
 unfold tokA at C1
 go_enter Tryz.func115,Tryz.ntmps115
 go_wp2_with fail
 refine C1.mono ?_
 rintro e w1 ⟨rfl,h1,f1⟩
 clear C1
 have s1:=Tr.of f1
 have t1:=t0.trans s1
 have T1:=h0.tabs T0 f1
 have h1:PS ts B pb F (i+1) ns w1:=h1
 have q1:i+1<ts.length:=q1
 have fl1:=fld2 ((tk ts (i)).kind:Nat) ((tk ts (i)).frm:Nat) ((tk ts (i)).to:Nat) ((tk ts (i)).n:Nat) ⟨(tk ts (i)).text.toArray⟩ w1
 by_cases e2:nx ts (i+1) = [40]
 rotate_left
 ·have hP:=HP.out
  rw[wantR_no e2] at hP
  have C2:=want_no h1 [40] e2
  unfold thrown at C2
  cases hP
  go_wp2_with fail
  refine C2.mono ?_
  rintro e w2 ⟨rfl,f2⟩
  exact⟨rfl,rfl,t1.ends (f2.sub (by simp))⟩
 have q2:=hT.more q1 (show nx ts (i+1)≠[] by rw[e2];decide)
 have hP:=HP.out
 rw[wantR_yes e2] at hP
 have HP:Hid (_=some r):=hP
 clear hP
 have C2:=want_yes h1 [40] e2 q2
 unfold tokA at C2
 clear e2
 go_wp2_with fail
 refine C2.mono ?_
 rintro e w2 ⟨rfl,h2,f2⟩
 clear C2
 have s2:=Tr.of f2
 have t2:=t1.trans s2
 have T2:=h1.tabs T1 f2
 have h2:PS ts B pb F (i+2) ns w2:=h2
 have q2:i+2<ts.length:=q2
 rcases bindR_some HP.out with ⟨er,hr,he⟩ | ⟨v3,j3,n3,hr,hP⟩
 ·subst he
  have C3:=H f (.listed false [41]) _ _ w2 _ _ (Nat.le_refl _) h2 T2 (by simp[preN]) (by have:=HN.out;omega) hr
  simp only[Ctr,ptr,if_true,Bool.false_eq_true,if_false] at C3
  go_wp2_with fail
  refine C3.mono ?_
  rintro e w3 ⟨rfl,f3⟩
  exact⟨rfl,rfl,t2.ends f3⟩
 obtain⟨o3a,o3b,o3c,o3d,_⟩:=run_ok hT (nt:=.listed false [41]) (ns:=ns) h2.ti (by simp[preN]) hr
 simp only[consN,slack] at o3a o3d
 have C3:=H f (.listed false [41]) _ _ w2 _ _ (Nat.le_refl _) h2 T2 (by simp[preN]) (by have:=HN.out;omega) hr
 simp only[Ctr,ptr,if_true,Bool.false_eq_true,if_false] at C3
 have HP:Hid (_=some r):=hP
 have B3:Hid (n3.length+3≤2*j3+0∧i<j3):=by have:=HN.out;unfold Hid;omega
 have q3:=o3b
 clear hP hr o3a o3b o3c o3d
 go_wp2_with fail
 refine C3.mono ?_
 rintro e w3 ⟨x3,F3,rfl,o3,y3,h3,s3⟩
 clear C3
 have f3:=s3.f
 have z3:Hid (∀ k,(x3:Value).ownBlock=some k→w.heap.size≤k):=fun k hk=>Nat.le_trans t2.f.size (y3 k hk).2
 have ny3:∀ k,(x3:Value).ownBlock=some k→k∉F3:=fun k hk=>(y3 k hk).1
 clear y3
 have t3:=t2.trans s3
 have T3:=h2.tabs T2 f3
 by_cases e4:nx ts (j3) = [59]
 rotate_left
 ·have hP:=HP.out
  rw[wantR_no e4] at hP
  have C4:=want_no h3 [59] e4
  unfold thrown at C4
  cases hP
  go_wp2_with fail
  refine C4.mono ?_
  rintro e w4 ⟨rfl,f4⟩
  exact⟨rfl,rfl,t3.ends (f4.sub (by simp))⟩
 have q4:=hT.more q3 (show nx ts (j3)≠[] by rw[e4];decide)
 have hP:=HP.out
 rw[wantR_yes e4] at hP
 have HP:Hid (_=some r):=hP
 clear hP
 have C4:=want_yes h3 [59] e4 q4
 unfold tokA at C4
 clear e4
 go_wp2_with fail
 refine C4.mono ?_
 rintro e w4 ⟨rfl,h4,f4⟩
 clear C4
 have s4:=Tr.of f4
 have t4:=t3.trans s4
 have T4:=h3.tabs T3 f4
 have o0_4:=own_fr o3 f4 (fun k hk=>ny3 k hk)
 have oi0_4:∀ k,(x3).ownBlock=some k→k∉F3:=fun k hk=>Tr.notin s4 (ny3 k hk) (o3.lt k hk).2
 have h4:PS ts B pb F3 (j3+1) n3 w4:=h4
 have q4:j3+1<ts.length:=q4
 have hP:=HP.out
 cases hP
 obtain⟨xa,xc,hx,_⟩:=own_slice o0_4
 have KV0:=ON.kv o0_4
 have LO:∀ k∈(x3).ownBlock.toList,w.heap.size≤k:=fun k hk=>z3.out k (by simpa using hk)
 subst hx
 have CL:=lay_any h4 KV0 13 [] (tk ts (i)).frm (by have:=B3.out;have:=HTL.out;have:=q4;omega)
 go_wp2_with fail
 refine CL.mono ?_
 rintro e wz ⟨rfl,Fz,hz,fz,sz⟩
 have tz:Tr F w Fz wz:=lay_tr t4 fz sz LO
 go_wp2
 go_ret
 exact⟨rfl,Fz,hz,tz⟩
set_option maxHeartbeats 2000000 in
theorem c_setS {ts:List Tok} {B pb:Nat} (hT:Toks ts) {f i pp:Nat} {ns:List PN} {w:World} {F:List Nat} {r:Except Nat (List Nat×Nat×List PN)} (H:Hyp ts B pb f) (h0:PS ts B pb F i ns w) (T0:Tabs w) (hp:preN ts i ns (.setS pp)) (hn:ns.length≤2*i+1) (hP:P ts (f+1) (.setS pp) i ns=some r) : Ctr ts B pb F w r (.setS pp):=by
 have hi:=h0.ti
 have HTL:Hid (ts.length≤200001):=h0.tl
 simp only[P] at hP
 have HP:Hid (_=some r):=hP
 clear hP
 simp only[Ctr,ptr]
 have t0:=Tr.refl F w
 have HF0:Hid (∀ k∈F,k<w.heap.size):=fun k hk=>(h0.fb k hk).2
 have HN:Hid (ns.length≤2*i+1):=hn
 clear hn
 have q1:=hT.more hi hp
 have C1:=pass_any h0 q1
 unfold tokA at C1
 go_enter Tryz.func225,Tryz.ntmps225
 go_wp2_with fail
 refine C1.mono ?_
 rintro e w1 ⟨rfl,h1,f1⟩
 clear C1
 have s1:=Tr.of f1
 have t1:=t0.trans s1
 have T1:=h0.tabs T0 f1
 have h1:PS ts B pb F (i+1) ns w1:=h1
 have q1:i+1<ts.length:=q1
 have fl1:=fld2 ((tk ts (i)).kind:Nat) ((tk ts (i)).frm:Nat) ((tk ts (i)).to:Nat) ((tk ts (i)).n:Nat) ⟨(tk ts (i)).text.toArray⟩ w1
 rcases bindR_some HP.out with ⟨er,hr,he⟩ | ⟨v2,j2,n2,hr,hP⟩
 ·subst he
  have C2:=H f (.expr) _ _ w1 _ _ (Nat.le_refl _) h1 T1 trivial (by have:=HN.out;omega) hr
  simp only[Ctr,ptr] at C2
  go_wp2_with fail
  refine C2.mono ?_
  rintro e w2 ⟨rfl,f2⟩
  exact⟨rfl,rfl,t1.ends f2⟩
 obtain⟨o2a,o2b,o2c,o2d,o2e⟩:=run_ok hT (nt:=.expr) (ns:=ns) h1.ti trivial hr
 simp only[consN,slack] at o2a o2d
 obtain⟨m2,rfl,hm2⟩:=o2e rfl
 have C2:=H f (.expr) _ _ w1 _ _ (Nat.le_refl _) h1 T1 trivial (by have:=HN.out;omega) hr
 simp only[Ctr,ptr] at C2
 have HP:Hid (_=some r):=hP
 have B2:Hid (n2.length+1≤2*j2+0∧i<j2):=by have:=HN.out;unfold Hid;omega
 have q2:=o2b
 clear hP hr o2a o2b o2c o2d o2e
 go_wp2_with fail
 refine C2.mono ?_
 rintro e w2 ⟨he,F2,h2,s2⟩
 obtain rfl:e = .returned (.int .i64 (m2:Nat)):=he
 clear C2
 have f2:=s2.f
 have t2:=t1.trans s2
 have T2:=h1.tabs T1 f2
 by_cases e3:nx ts (j2) = [59]
 rotate_left
 ·have hP:=HP.out
  rw[wantR_no e3] at hP
  have C3:=want_no h2 [59] e3
  unfold thrown at C3
  cases hP
  go_wp2_with fail
  refine C3.mono ?_
  rintro e w3 ⟨rfl,f3⟩
  exact⟨rfl,rfl,t2.ends (f3.sub (by simp))⟩
 have q3:=hT.more q2 (show nx ts (j2)≠[] by rw[e3];decide)
 have hP:=HP.out
 rw[wantR_yes e3] at hP
 have HP:Hid (_=some r):=hP
 clear hP
 have C3:=want_yes h2 [59] e3 q3
 unfold tokA at C3
 clear e3
 go_wp2_with fail
 refine C3.mono ?_
 rintro e w3 ⟨rfl,h3,f3⟩
 clear C3
 have s3:=Tr.of f3
 have t3:=t2.trans s3
 have T3:=h2.tabs T2 f3
 have h3:PS ts B pb F2 (j2+1) n2 w3:=h3
 have q3:j2+1<ts.length:=q3
 have hP:=HP.out
 cases hP
 have gb:Fr [] w3 (w3.alloc (.cells #[.int .i64 (pp:Nat),.int .i64 (m2:Nat)] 3)):=(Fr.refl _ _).alloc _
 have ob:ON (w3.alloc (.cells #[.int .i64 (pp:Nat),.int .i64 (m2:Nat)] 3)) B (.slice (some ⟨w3.heap.size,0,none⟩) 2 2) [pp,m2]:=ON.built w3 B (by have:=h3.fb pb h3.pf;omega) [pp,m2] (by simp)
 have KV0:=ON.kv ob
 have LO:∀ k∈(Value.slice (some ⟨w3.heap.size,0,none⟩) 2 2).ownBlock.toList,w.heap.size≤k:=fun k hk=>by rw[own_mem hk];exact t3.f.size
 have hb:=h3.fr gb (by simp)
 have tb:=t3.trans (Tr.of0 gb)
 have CL:=lay_any hb KV0 6 [] (tk ts (i)).frm (by have:=B2.out;have:=HTL.out;have:=q3;omega)
 go_wp2_with fail
 refine CL.mono ?_
 rintro e wz ⟨rfl,Fz,hz,fz,sz⟩
 have tz:Tr F w Fz wz:=lay_tr tb fz sz LO
 go_wp2
 go_ret
 exact⟨rfl,Fz,hz,tz⟩
set_option maxHeartbeats 2000000 in
theorem c_joined {ts:List Tok} {B pb:Nat} (hT:Toks ts) {f i ll line:Nat} {ns:List PN} {w:World} {F:List Nat} {r:Except Nat (List Nat×Nat×List PN)} (H:Hyp ts B pb f) (h0:PS ts B pb F i ns w) (T0:Tabs w) (hp:preN ts i ns (.joined ll line)) (hn:ns.length≤2*i+1) (hP:P ts (f+1) (.joined ll line) i ns=some r) : Ctr ts B pb F w r (.joined ll line):=by
 have hi:=h0.ti
 have HTL:Hid (ts.length≤200001):=h0.tl
 simp only[P] at hP
 have HP:Hid (_=some r):=hP
 clear hP
 simp only[Ctr,ptr]
 have t0:=Tr.refl F w
 have HF0:Hid (∀ k∈F,k<w.heap.size):=fun k hk=>(h0.fb k hk).2
 have HN:Hid (ns.length≤2*i+1):=hn
 clear hn
 have q1:=hT.more hi hp.1
 have C1:=pass_any h0 q1
 unfold tokA at C1
 go_enter Tryz.func187,Tryz.ntmps187
 go_wp2_with fail
 refine C1.mono ?_
 rintro e w1 ⟨rfl,h1,f1⟩
 clear C1
 have s1:=Tr.of f1
 have t1:=t0.trans s1
 have T1:=h0.tabs T0 f1
 have h1:PS ts B pb F (i+1) ns w1:=h1
 have q1:i+1<ts.length:=q1
 have g2:Fr [] w1 (w1.alloc (.cells #[.int .i64 ((tk ts (i)).kind:Nat),.string ⟨(tk ts (i)).text.toArray⟩,.int .i64 ((tk ts (i)).frm:Nat),.int .i64 ((tk ts (i)).to:Nat),.int .i64 ((tk ts (i)).n:Nat)] 82)):=(Fr.refl _ _).alloc _
 have v2:=TB.new w1 (.int .i64 ((tk ts (i)).kind:Nat)) (.string ⟨(tk ts (i)).text.toArray⟩) (.int .i64 ((tk ts (i)).frm:Nat)) (.int .i64 ((tk ts (i)).to:Nat)) (.int .i64 ((tk ts (i)).n:Nat))
 have ni2:w1.heap.size∉F:=fun hm=>by have:=(h1.fb _ hm).2;omega
 have h2:=h1.fr g2 (by simp)
 have t2:=t1.trans (Tr.of0 g2)
 have T2:=T1.fr g2 (by simp)
 rcases bindR_some HP.out with ⟨er,hr,he⟩ | ⟨v3,j3,n3,hr,hP⟩
 ·subst he
  have C3:=H f (.chain line) _ _ (w1.alloc (.cells #[.int .i64 ((tk ts (i)).kind:Nat),.string ⟨(tk ts (i)).text.toArray⟩,.int .i64 ((tk ts (i)).frm:Nat),.int .i64 ((tk ts (i)).to:Nat),.int .i64 ((tk ts (i)).n:Nat)] 82)) _ _ (Nat.le_refl _) h2 T2 hp.2 (by have:=HN.out;omega) hr
  simp only[Ctr,ptr] at C3
  go_wp2_with fail
  refine C3.mono ?_
  rintro e w3 ⟨rfl,f3⟩
  exact⟨rfl,rfl,t2.ends f3⟩
 obtain⟨o3a,o3b,o3c,o3d,o3e⟩:=run_ok hT (nt:=.chain line) (ns:=ns) h2.ti hp.2 hr
 simp only[consN,slack] at o3a o3d
 obtain⟨m3,rfl,hm3⟩:=o3e rfl
 have C3:=H f (.chain line) _ _ (w1.alloc (.cells #[.int .i64 ((tk ts (i)).kind:Nat),.string ⟨(tk ts (i)).text.toArray⟩,.int .i64 ((tk ts (i)).frm:Nat),.int .i64 ((tk ts (i)).to:Nat),.int .i64 ((tk ts (i)).n:Nat)] 82)) _ _ (Nat.le_refl _) h2 T2 hp.2 (by have:=HN.out;omega) hr
 simp only[Ctr,ptr] at C3
 have HP:Hid (_=some r):=hP
 have B3:Hid (n3.length+1≤2*j3+0∧i<j3):=by have:=HN.out;unfold Hid;omega
 have q3:=o3b
 clear hP hr o3a o3b o3c o3d o3e
 go_wp2_with fail
 refine C3.mono ?_
 rintro e w3 ⟨he,F3,h3,s3⟩
 obtain rfl:e = .returned (.int .i64 (m3:Nat)):=he
 clear C3
 have f3:=s3.f
 have t3:=t2.trans s3
 have T3:=h2.tabs T2 f3
 have u0_3:=v2.fr f3 ni2
 have ni0_3:=Tr.notin s3 ni2 v2.lt
 have hP:=HP.out
 cases hP
 have a0:=u0_3.c1
 have b0:=u0_3.c2
 have gb:Fr [] w3 (w3.alloc (.cells #[.int .i64 (ll:Nat),.int .i64 (m3:Nat)] 3)):=(Fr.refl _ _).alloc _
 have ob:ON (w3.alloc (.cells #[.int .i64 (ll:Nat),.int .i64 (m3:Nat)] 3)) B (.slice (some ⟨w3.heap.size,0,none⟩) 2 2) [ll,m3]:=ON.built w3 B (by have:=h3.fb pb h3.pf;omega) [ll,m3] (by simp)
 have KV0:=ON.kv ob
 have LO:∀ k∈(Value.slice (some ⟨w3.heap.size,0,none⟩) 2 2).ownBlock.toList,w.heap.size≤k:=fun k hk=>by rw[own_mem hk];exact t3.f.size
 have hb:=h3.fr gb (by simp)
 have tb:=t3.trans (Tr.of0 gb)
 have CL:=lay_any hb KV0 19 (tk ts (i)).text (tk ts (i)).frm (by have:=B3.out;have:=HTL.out;have:=q3;omega)
 go_wp2_with fail
 refine CL.mono ?_
 rintro e wz ⟨rfl,Fz,hz,fz,sz⟩
 have tz:Tr F w Fz wz:=lay_tr tb fz sz LO
 go_wp2
 go_ret
 exact⟨rfl,Fz,hz,tz⟩
set_option maxHeartbeats 2000000 in
theorem c_field {ts:List Tok} {B pb:Nat} (hT:Toks ts) {f i nn:Nat} {ns:List PN} {w:World} {F:List Nat} {r:Except Nat (List Nat×Nat×List PN)} (H:Hyp ts B pb f) (h0:PS ts B pb F i ns w) (T0:Tabs w) (hp:preN ts i ns (.field nn)) (hn:ns.length≤2*i+1) (hP:P ts (f+1) (.field nn) i ns=some r) : Ctr ts B pb F w r (.field nn):=by
 have hi:=h0.ti
 have HTL:Hid (ts.length≤200001):=h0.tl
 simp only[P] at hP
 have HP:Hid (_=some r):=hP
 clear hP
 simp only[Ctr,ptr]
 have t0:=Tr.refl F w
 have HF0:Hid (∀ k∈F,k<w.heap.size):=fun k hk=>(h0.fb k hk).2
 have HN:Hid (ns.length≤2*i+1):=hn
 clear hn
 have q1:=hT.more hi hp
 have C1:=pass_any h0 q1
 unfold tokA at C1
 go_enter Tryz.func230,Tryz.ntmps230
 go_wp2_with fail
 refine C1.mono ?_
 rintro e w1 ⟨rfl,h1,f1⟩
 clear C1
 have s1:=Tr.of f1
 have t1:=t0.trans s1
 have T1:=h0.tabs T0 f1
 have h1:PS ts B pb F (i+1) ns w1:=h1
 have q1:i+1<ts.length:=q1
 have fl1:=fld2 ((tk ts (i)).kind:Nat) ((tk ts (i)).frm:Nat) ((tk ts (i)).to:Nat) ((tk ts (i)).n:Nat) ⟨(tk ts (i)).text.toArray⟩ w1
 by_cases e2:nx ts (i+1)=nmB
 rotate_left
 ·have hP:=HP.out
  rw[wantR_no e2] at hP
  have C2:=want_no h1 nmB e2
  unfold thrown at C2
  unfold nmB at C2
  cases hP
  go_wp2_with fail
  refine C2.mono ?_
  rintro e w2 ⟨rfl,f2⟩
  exact⟨rfl,rfl,t1.ends (f2.sub (by simp))⟩
 have q2:=hT.more q1 (show nx ts (i+1)≠[] by rw[e2];decide)
 have hP:=HP.out
 rw[wantR_yes e2] at hP
 have HP:Hid (_=some r):=hP
 clear hP
 have C2:=want_yes h1 nmB e2 q2
 unfold tokA at C2
 unfold nmB at C2
 clear e2
 go_wp2_with fail
 refine C2.mono ?_
 rintro e w2 ⟨rfl,h2,f2⟩
 clear C2
 have s2:=Tr.of f2
 have t2:=t1.trans s2
 have T2:=h1.tabs T1 f2
 have h2:PS ts B pb F (i+2) ns w2:=h2
 have q2:i+2<ts.length:=q2
 have g3:Fr [] w2 (w2.alloc (.cells #[.int .i64 ((tk ts (i+1)).kind:Nat),.string ⟨(tk ts (i+1)).text.toArray⟩,.int .i64 ((tk ts (i+1)).frm:Nat),.int .i64 ((tk ts (i+1)).to:Nat),.int .i64 ((tk ts (i+1)).n:Nat)] 82)):=(Fr.refl _ _).alloc _
 have v3:=TB.new w2 (.int .i64 ((tk ts (i+1)).kind:Nat)) (.string ⟨(tk ts (i+1)).text.toArray⟩) (.int .i64 ((tk ts (i+1)).frm:Nat)) (.int .i64 ((tk ts (i+1)).to:Nat)) (.int .i64 ((tk ts (i+1)).n:Nat))
 have ni3:w2.heap.size∉F:=fun hm=>by have:=(h2.fb _ hm).2;omega
 have h3:=h2.fr g3 (by simp)
 have t3:=t2.trans (Tr.of0 g3)
 have T3:=T2.fr g3 (by simp)
 have hP:=HP.out
 cases hP
 have a0:=v3.c1
 have b0:=v3.c2
 have gb:Fr [] (w2.alloc (.cells #[.int .i64 ((tk ts (i+1)).kind:Nat),.string ⟨(tk ts (i+1)).text.toArray⟩,.int .i64 ((tk ts (i+1)).frm:Nat),.int .i64 ((tk ts (i+1)).to:Nat),.int .i64 ((tk ts (i+1)).n:Nat)] 82)) ((w2.alloc (.cells #[.int .i64 ((tk ts (i+1)).kind:Nat),.string ⟨(tk ts (i+1)).text.toArray⟩,.int .i64 ((tk ts (i+1)).frm:Nat),.int .i64 ((tk ts (i+1)).to:Nat),.int .i64 ((tk ts (i+1)).n:Nat)] 82)).alloc (.cells #[.int .i64 (nn:Nat)] 3)):=(Fr.refl _ _).alloc _
 have ob:ON ((w2.alloc (.cells #[.int .i64 ((tk ts (i+1)).kind:Nat),.string ⟨(tk ts (i+1)).text.toArray⟩,.int .i64 ((tk ts (i+1)).frm:Nat),.int .i64 ((tk ts (i+1)).to:Nat),.int .i64 ((tk ts (i+1)).n:Nat)] 82)).alloc (.cells #[.int .i64 (nn:Nat)] 3)) B (.slice (some ⟨(w2.alloc (.cells #[.int .i64 ((tk ts (i+1)).kind:Nat),.string ⟨(tk ts (i+1)).text.toArray⟩,.int .i64 ((tk ts (i+1)).frm:Nat),.int .i64 ((tk ts (i+1)).to:Nat),.int .i64 ((tk ts (i+1)).n:Nat)] 82)).heap.size,0,none⟩) 1 1) [nn]:=ON.built (w2.alloc (.cells #[.int .i64 ((tk ts (i+1)).kind:Nat),.string ⟨(tk ts (i+1)).text.toArray⟩,.int .i64 ((tk ts (i+1)).frm:Nat),.int .i64 ((tk ts (i+1)).to:Nat),.int .i64 ((tk ts (i+1)).n:Nat)] 82)) B (by have:=h3.fb pb h3.pf;omega) [nn] (by simp)
 have KV0:=ON.kv ob
 have LO:∀ k∈(Value.slice (some ⟨(w2.alloc (.cells #[.int .i64 ((tk ts (i+1)).kind:Nat),.string ⟨(tk ts (i+1)).text.toArray⟩,.int .i64 ((tk ts (i+1)).frm:Nat),.int .i64 ((tk ts (i+1)).to:Nat),.int .i64 ((tk ts (i+1)).n:Nat)] 82)).heap.size,0,none⟩) 1 1).ownBlock.toList,w.heap.size≤k:=fun k hk=>by rw[own_mem hk];exact t3.f.size
 have hb:=h3.fr gb (by simp)
 have tb:=t3.trans (Tr.of0 gb)
 have CL:=lay_any hb KV0 20 (tk ts (i+1)).text (tk ts (i)).frm (by have:=HN.out;have:=HTL.out;have:=q2;omega)
 simp only[World.size_alloc] at CL
 go_wp2_with fail
 refine CL.mono ?_
 rintro e wz ⟨rfl,Fz,hz,fz,sz⟩
 have sz:∀ k∈Fz,k∈F∨k∈(Value.slice (some ⟨(w2.alloc (.cells #[.int .i64 ((tk ts (i+1)).kind:Nat),.string ⟨(tk ts (i+1)).text.toArray⟩,.int .i64 ((tk ts (i+1)).frm:Nat),.int .i64 ((tk ts (i+1)).to:Nat),.int .i64 ((tk ts (i+1)).n:Nat)] 82)).heap.size,0,none⟩) 1 1).ownBlock.toList∨((w2.alloc (.cells #[.int .i64 ((tk ts (i+1)).kind:Nat),.string ⟨(tk ts (i+1)).text.toArray⟩,.int .i64 ((tk ts (i+1)).frm:Nat),.int .i64 ((tk ts (i+1)).to:Nat),.int .i64 ((tk ts (i+1)).n:Nat)] 82)).alloc (.cells #[.int .i64 (nn:Nat)] 3)).heap.size≤k:=fun k hk=>by have:=sz k hk;simp only[World.size_alloc];exact this
 have tz:Tr F w Fz wz:=lay_tr tb fz sz LO
 go_wp2
 go_ret
 exact⟨rfl,Fz,hz,tz⟩
set_option maxHeartbeats 2000000 in
theorem c_elem {ts:List Tok} {B pb:Nat} (hT:Toks ts) {f i nn:Nat} {ns:List PN} {w:World} {F:List Nat} {r:Except Nat (List Nat×Nat×List PN)} (H:Hyp ts B pb f) (h0:PS ts B pb F i ns w) (T0:Tabs w) (hp:preN ts i ns (.elem nn)) (hn:ns.length≤2*i+1) (hP:P ts (f+1) (.elem nn) i ns=some r) : Ctr ts B pb F w r (.elem nn):=by
 have hi:=h0.ti
 have HTL:Hid (ts.length≤200001):=h0.tl
 simp only[P] at hP
 have HP:Hid (_=some r):=hP
 clear hP
 simp only[Ctr,ptr]
 have t0:=Tr.refl F w
 have HF0:Hid (∀ k∈F,k<w.heap.size):=fun k hk=>(h0.fb k hk).2
 have HN:Hid (ns.length≤2*i+1):=hn
 clear hn
 have q1:=hT.more hi hp
 have C1:=pass_any h0 q1
 unfold tokA at C1
 go_enter Tryz.func231,Tryz.ntmps231
 go_wp2_with fail
 refine C1.mono ?_
 rintro e w1 ⟨rfl,h1,f1⟩
 clear C1
 have s1:=Tr.of f1
 have t1:=t0.trans s1
 have T1:=h0.tabs T0 f1
 have h1:PS ts B pb F (i+1) ns w1:=h1
 have q1:i+1<ts.length:=q1
 have fl1:=fld2 ((tk ts (i)).kind:Nat) ((tk ts (i)).frm:Nat) ((tk ts (i)).to:Nat) ((tk ts (i)).n:Nat) ⟨(tk ts (i)).text.toArray⟩ w1
 rcases bindR_some HP.out with ⟨er,hr,he⟩ | ⟨v2,j2,n2,hr,hP⟩
 ·subst he
  have C2:=H f (.expr) _ _ w1 _ _ (Nat.le_refl _) h1 T1 trivial (by have:=HN.out;omega) hr
  simp only[Ctr,ptr] at C2
  go_wp2_with fail
  refine C2.mono ?_
  rintro e w2 ⟨rfl,f2⟩
  exact⟨rfl,rfl,t1.ends f2⟩
 obtain⟨o2a,o2b,o2c,o2d,o2e⟩:=run_ok hT (nt:=.expr) (ns:=ns) h1.ti trivial hr
 simp only[consN,slack] at o2a o2d
 obtain⟨m2,rfl,hm2⟩:=o2e rfl
 have C2:=H f (.expr) _ _ w1 _ _ (Nat.le_refl _) h1 T1 trivial (by have:=HN.out;omega) hr
 simp only[Ctr,ptr] at C2
 have HP:Hid (_=some r):=hP
 have B2:Hid (n2.length+1≤2*j2+0∧i<j2):=by have:=HN.out;unfold Hid;omega
 have q2:=o2b
 clear hP hr o2a o2b o2c o2d o2e
 go_wp2_with fail
 refine C2.mono ?_
 rintro e w2 ⟨he,F2,h2,s2⟩
 obtain rfl:e = .returned (.int .i64 (m2:Nat)):=he
 clear C2
 have f2:=s2.f
 have t2:=t1.trans s2
 have T2:=h1.tabs T1 f2
 by_cases e3:nx ts (j2) = [93]
 rotate_left
 ·have hP:=HP.out
  rw[wantR_no e3] at hP
  have C3:=want_no h2 [93] e3
  unfold thrown at C3
  cases hP
  go_wp2_with fail
  refine C3.mono ?_
  rintro e w3 ⟨rfl,f3⟩
  exact⟨rfl,rfl,t2.ends (f3.sub (by simp))⟩
 have q3:=hT.more q2 (show nx ts (j2)≠[] by rw[e3];decide)
 have hP:=HP.out
 rw[wantR_yes e3] at hP
 have HP:Hid (_=some r):=hP
 clear hP
 have C3:=want_yes h2 [93] e3 q3
 unfold tokA at C3
 clear e3
 go_wp2_with fail
 refine C3.mono ?_
 rintro e w3 ⟨rfl,h3,f3⟩
 clear C3
 have s3:=Tr.of f3
 have t3:=t2.trans s3
 have T3:=h2.tabs T2 f3
 have h3:PS ts B pb F2 (j2+1) n2 w3:=h3
 have q3:j2+1<ts.length:=q3
 have hP:=HP.out
 cases hP
 have gb:Fr [] w3 (w3.alloc (.cells #[.int .i64 (nn:Nat),.int .i64 (m2:Nat)] 3)):=(Fr.refl _ _).alloc _
 have ob:ON (w3.alloc (.cells #[.int .i64 (nn:Nat),.int .i64 (m2:Nat)] 3)) B (.slice (some ⟨w3.heap.size,0,none⟩) 2 2) [nn,m2]:=ON.built w3 B (by have:=h3.fb pb h3.pf;omega) [nn,m2] (by simp)
 have KV0:=ON.kv ob
 have LO:∀ k∈(Value.slice (some ⟨w3.heap.size,0,none⟩) 2 2).ownBlock.toList,w.heap.size≤k:=fun k hk=>by rw[own_mem hk];exact t3.f.size
 have hb:=h3.fr gb (by simp)
 have tb:=t3.trans (Tr.of0 gb)
 have CL:=lay_any hb KV0 21 [] (tk ts (i)).frm (by have:=B2.out;have:=HTL.out;have:=q3;omega)
 go_wp2_with fail
 refine CL.mono ?_
 rintro e wz ⟨rfl,Fz,hz,fz,sz⟩
 have tz:Tr F w Fz wz:=lay_tr tb fz sz LO
 go_wp2
 go_ret
 exact⟨rfl,Fz,hz,tz⟩
set_option maxHeartbeats 2000000 in
theorem c_made {ts:List Tok} {B pb:Nat} (hT:Toks ts) {f i:Nat} {ns:List PN} {w:World} {F:List Nat} {r:Except Nat (List Nat×Nat×List PN)} (H:Hyp ts B pb f) (h0:PS ts B pb F i ns w) (T0:Tabs w) (hp:preN ts i ns (.made)) (hn:ns.length≤2*i+1) (hP:P ts (f+1) (.made) i ns=some r) : Ctr ts B pb F w r (.made):=by
 have hi:=h0.ti
 have HTL:Hid (ts.length≤200001):=h0.tl
 simp only[P] at hP
 have HP:Hid (_=some r):=hP
 clear hP
 simp only[Ctr,ptr]
 have t0:=Tr.refl F w
 have HF0:Hid (∀ k∈F,k<w.heap.size):=fun k hk=>(h0.fb k hk).2
 have HN:Hid (ns.length≤2*i+1):=hn
 clear hn
 have q1:=hT.more hi hp
 have C1:=pass_any h0 q1
 unfold tokA at C1
 go_enter Tryz.func120,Tryz.ntmps120
 go_wp2_with fail
 refine C1.mono ?_
 rintro e w1 ⟨rfl,h1,f1⟩
 clear C1
 have s1:=Tr.of f1
 have t1:=t0.trans s1
 have T1:=h0.tabs T0 f1
 have h1:PS ts B pb F (i+1) ns w1:=h1
 have q1:i+1<ts.length:=q1
 have fl1:=fld2 ((tk ts (i)).kind:Nat) ((tk ts (i)).frm:Nat) ((tk ts (i)).to:Nat) ((tk ts (i)).n:Nat) ⟨(tk ts (i)).text.toArray⟩ w1
 by_cases e2:nx ts (i+1)=nmB
 rotate_left
 ·have hP:=HP.out
  rw[wantR_no e2] at hP
  have C2:=want_no h1 nmB e2
  unfold thrown at C2
  unfold nmB at C2
  cases hP
  go_wp2_with fail
  refine C2.mono ?_
  rintro e w2 ⟨rfl,f2⟩
  exact⟨rfl,rfl,t1.ends (f2.sub (by simp))⟩
 have q2:=hT.more q1 (show nx ts (i+1)≠[] by rw[e2];decide)
 have hP:=HP.out
 rw[wantR_yes e2] at hP
 have HP:Hid (_=some r):=hP
 clear hP
 have C2:=want_yes h1 nmB e2 q2
 unfold tokA at C2
 unfold nmB at C2
 clear e2
 go_wp2_with fail
 refine C2.mono ?_
 rintro e w2 ⟨rfl,h2,f2⟩
 clear C2
 have s2:=Tr.of f2
 have t2:=t1.trans s2
 have T2:=h1.tabs T1 f2
 have h2:PS ts B pb F (i+2) ns w2:=h2
 have q2:i+2<ts.length:=q2
 have g3:Fr [] w2 (w2.alloc (.cells #[.int .i64 ((tk ts (i+1)).kind:Nat),.string ⟨(tk ts (i+1)).text.toArray⟩,.int .i64 ((tk ts (i+1)).frm:Nat),.int .i64 ((tk ts (i+1)).to:Nat),.int .i64 ((tk ts (i+1)).n:Nat)] 82)):=(Fr.refl _ _).alloc _
 have v3:=TB.new w2 (.int .i64 ((tk ts (i+1)).kind:Nat)) (.string ⟨(tk ts (i+1)).text.toArray⟩) (.int .i64 ((tk ts (i+1)).frm:Nat)) (.int .i64 ((tk ts (i+1)).to:Nat)) (.int .i64 ((tk ts (i+1)).n:Nat))
 have ni3:w2.heap.size∉F:=fun hm=>by have:=(h2.fb _ hm).2;omega
 have h3:=h2.fr g3 (by simp)
 have t3:=t2.trans (Tr.of0 g3)
 have T3:=T2.fr g3 (by simp)
 have hP:=HP.out
 cases hP
 have a0:=v3.c1
 have b0:=v3.c2
 have KV0:=KV.nil B (w2.alloc (.cells #[.int .i64 ((tk ts (i+1)).kind:Nat),.string ⟨(tk ts (i+1)).text.toArray⟩,.int .i64 ((tk ts (i+1)).frm:Nat),.int .i64 ((tk ts (i+1)).to:Nat),.int .i64 ((tk ts (i+1)).n:Nat)] 82))
 have LO:∀ k∈([] : List Nat),w.heap.size≤k:=by simp
 have CL:=lay_any h3 KV0 23 (tk ts (i+1)).text (tk ts (i+1)).frm (by have:=HN.out;have:=HTL.out;have:=q2;omega)
 go_wp2_with fail
 refine CL.mono ?_
 rintro e wz ⟨rfl,Fz,hz,fz,sz⟩
 have tz:Tr F w Fz wz:=lay_tr t3 fz sz LO
 go_wp2
 go_ret
 exact⟨rfl,Fz,hz,tz⟩
set_option maxHeartbeats 2000000 in
theorem c_alone {ts:List Tok} {B pb:Nat} (hT:Toks ts) {f i kk:Nat} {ns:List PN} {w:World} {F:List Nat} {r:Except Nat (List Nat×Nat×List PN)} (H:Hyp ts B pb f) (h0:PS ts B pb F i ns w) (T0:Tabs w) (hp:preN ts i ns (.alone kk)) (hn:ns.length≤2*i+1) (hP:P ts (f+1) (.alone kk) i ns=some r) : Ctr ts B pb F w r (.alone kk):=by
 have hi:=h0.ti
 have HTL:Hid (ts.length≤200001):=h0.tl
 simp only[P] at hP
 have HP:Hid (_=some r):=hP
 clear hP
 simp only[Ctr,ptr]
 have t0:=Tr.refl F w
 have HF0:Hid (∀ k∈F,k<w.heap.size):=fun k hk=>(h0.fb k hk).2
 have HN:Hid (ns.length≤2*i+1):=hn
 clear hn
 have q1:=hT.more hi hp
 have C1:=pass_any h0 q1
 unfold tokA at C1
 go_enter Tryz.func167,Tryz.ntmps167
 go_wp2_with fail
 refine C1.mono ?_
 rintro e w1 ⟨rfl,h1,f1⟩
 clear C1
 have s1:=Tr.of f1
 have t1:=t0.trans s1
 have T1:=h0.tabs T0 f1
 have h1:PS ts B pb F (i+1) ns w1:=h1
 have q1:i+1<ts.length:=q1
 have fl1:=fld2 ((tk ts (i)).kind:Nat) ((tk ts (i)).frm:Nat) ((tk ts (i)).to:Nat) ((tk ts (i)).n:Nat) ⟨(tk ts (i)).text.toArray⟩ w1
 have hP:=HP.out
 cases hP
 have KV0:=KV.nil B w1
 have LO:∀ k∈([] : List Nat),w.heap.size≤k:=by simp
 have CL:=lay_any h1 KV0 kk [] (tk ts (i)).frm (by have:=HN.out;have:=HTL.out;have:=q1;omega)
 go_wp2_with fail
 refine CL.mono ?_
 rintro e wz ⟨rfl,Fz,hz,fz,sz⟩
 have tz:Tr F w Fz wz:=lay_tr t1 fz sz LO
 go_wp2
 go_ret
 exact⟨rfl,Fz,hz,tz⟩
set_option maxHeartbeats 2000000 in
theorem c_empty {ts:List Tok} {B pb:Nat} (hT:Toks ts) {f i kk:Nat} {ns:List PN} {w:World} {F:List Nat} {r:Except Nat (List Nat×Nat×List PN)} (H:Hyp ts B pb f) (h0:PS ts B pb F i ns w) (T0:Tabs w) (hp:preN ts i ns (.empty kk)) (hn:ns.length≤2*i+1) (hP:P ts (f+1) (.empty kk) i ns=some r) : Ctr ts B pb F w r (.empty kk):=by
 have hi:=h0.ti
 have HTL:Hid (ts.length≤200001):=h0.tl
 simp only[P] at hP
 have HP:Hid (_=some r):=hP
 clear hP
 simp only[Ctr,ptr]
 have t0:=Tr.refl F w
 have HF0:Hid (∀ k∈F,k<w.heap.size):=fun k hk=>(h0.fb k hk).2
 have HN:Hid (ns.length≤2*i+1):=hn
 clear hn
 have q1:=hT.more hi hp
 have C1:=pass_any h0 q1
 unfold tokA at C1
 go_enter Tryz.func169,Tryz.ntmps169
 go_wp2_with fail
 refine C1.mono ?_
 rintro e w1 ⟨rfl,h1,f1⟩
 clear C1
 have s1:=Tr.of f1
 have t1:=t0.trans s1
 have T1:=h0.tabs T0 f1
 have h1:PS ts B pb F (i+1) ns w1:=h1
 have q1:i+1<ts.length:=q1
 have fl1:=fld2 ((tk ts (i)).kind:Nat) ((tk ts (i)).frm:Nat) ((tk ts (i)).to:Nat) ((tk ts (i)).n:Nat) ⟨(tk ts (i)).text.toArray⟩ w1
 by_cases e2:nx ts (i+1) = [40]
 rotate_left
 ·have hP:=HP.out
  rw[wantR_no e2] at hP
  have C2:=want_no h1 [40] e2
  unfold thrown at C2
  cases hP
  go_wp2_with fail
  refine C2.mono ?_
  rintro e w2 ⟨rfl,f2⟩
  exact⟨rfl,rfl,t1.ends (f2.sub (by simp))⟩
 have q2:=hT.more q1 (show nx ts (i+1)≠[] by rw[e2];decide)
 have hP:=HP.out
 rw[wantR_yes e2] at hP
 have HP:Hid (_=some r):=hP
 clear hP
 have C2:=want_yes h1 [40] e2 q2
 unfold tokA at C2
 clear e2
 go_wp2_with fail
 refine C2.mono ?_
 rintro e w2 ⟨rfl,h2,f2⟩
 clear C2
 have s2:=Tr.of f2
 have t2:=t1.trans s2
 have T2:=h1.tabs T1 f2
 have h2:PS ts B pb F (i+2) ns w2:=h2
 have q2:i+2<ts.length:=q2
 by_cases e3:nx ts (i+2) = [41]
 rotate_left
 ·have hP:=HP.out
  rw[wantR_no e3] at hP
  have C3:=want_no h2 [41] e3
  unfold thrown at C3
  cases hP
  go_wp2_with fail
  refine C3.mono ?_
  rintro e w3 ⟨rfl,f3⟩
  exact⟨rfl,rfl,t2.ends (f3.sub (by simp))⟩
 have q3:=hT.more q2 (show nx ts (i+2)≠[] by rw[e3];decide)
 have hP:=HP.out
 rw[wantR_yes e3] at hP
 have HP:Hid (_=some r):=hP
 clear hP
 have C3:=want_yes h2 [41] e3 q3
 unfold tokA at C3
 clear e3
 go_wp2_with fail
 refine C3.mono ?_
 rintro e w3 ⟨rfl,h3,f3⟩
 clear C3
 have s3:=Tr.of f3
 have t3:=t2.trans s3
 have T3:=h2.tabs T2 f3
 have h3:PS ts B pb F (i+3) ns w3:=h3
 have q3:i+3<ts.length:=q3
 have hP:=HP.out
 cases hP
 have KV0:=KV.nil B w3
 have LO:∀ k∈([] : List Nat),w.heap.size≤k:=by simp
 have CL:=lay_any h3 KV0 kk [] (tk ts (i)).frm (by have:=HN.out;have:=HTL.out;have:=q3;omega)
 go_wp2_with fail
 refine CL.mono ?_
 rintro e wz ⟨rfl,Fz,hz,fz,sz⟩
 have tz:Tr F w Fz wz:=lay_tr t3 fz sz LO
 go_wp2
 go_ret
 exact⟨rfl,Fz,hz,tz⟩
set_option maxHeartbeats 2000000 in
theorem c_about {ts:List Tok} {B pb:Nat} (hT:Toks ts) {f i kk:Nat} {ns:List PN} {w:World} {F:List Nat} {r:Except Nat (List Nat×Nat×List PN)} (H:Hyp ts B pb f) (h0:PS ts B pb F i ns w) (T0:Tabs w) (hp:preN ts i ns (.about kk)) (hn:ns.length≤2*i+1) (hP:P ts (f+1) (.about kk) i ns=some r) : Ctr ts B pb F w r (.about kk):=by
 have hi:=h0.ti
 have HTL:Hid (ts.length≤200001):=h0.tl
 simp only[P] at hP
 have HP:Hid (_=some r):=hP
 clear hP
 simp only[Ctr,ptr]
 have t0:=Tr.refl F w
 have HF0:Hid (∀ k∈F,k<w.heap.size):=fun k hk=>(h0.fb k hk).2
 have HN:Hid (ns.length≤2*i+1):=hn
 clear hn
 have q1:=hT.more hi hp
 have C1:=pass_any h0 q1
 unfold tokA at C1
 go_enter Tryz.func168,Tryz.ntmps168
 go_wp2_with fail
 refine C1.mono ?_
 rintro e w1 ⟨rfl,h1,f1⟩
 clear C1
 have s1:=Tr.of f1
 have t1:=t0.trans s1
 have T1:=h0.tabs T0 f1
 have h1:PS ts B pb F (i+1) ns w1:=h1
 have q1:i+1<ts.length:=q1
 have fl1:=fld2 ((tk ts (i)).kind:Nat) ((tk ts (i)).frm:Nat) ((tk ts (i)).to:Nat) ((tk ts (i)).n:Nat) ⟨(tk ts (i)).text.toArray⟩ w1
 rcases bindR_some HP.out with ⟨er,hr,he⟩ | ⟨v2,j2,n2,hr,hP⟩
 ·subst he
  have C2:=H f (.brack) _ _ w1 _ _ (Nat.le_refl _) h1 T1 trivial (by have:=HN.out;omega) hr
  simp only[Ctr,ptr] at C2
  go_wp2_with fail
  refine C2.mono ?_
  rintro e w2 ⟨rfl,f2⟩
  exact⟨rfl,rfl,t1.ends f2⟩
 obtain⟨o2a,o2b,o2c,o2d,o2e⟩:=run_ok hT (nt:=.brack) (ns:=ns) h1.ti trivial hr
 simp only[consN,slack] at o2a o2d
 obtain⟨m2,rfl,hm2⟩:=o2e rfl
 have C2:=H f (.brack) _ _ w1 _ _ (Nat.le_refl _) h1 T1 trivial (by have:=HN.out;omega) hr
 simp only[Ctr,ptr] at C2
 have HP:Hid (_=some r):=hP
 have B2:Hid (n2.length+1≤2*j2+0∧i<j2):=by have:=HN.out;unfold Hid;omega
 have q2:=o2b
 clear hP hr o2a o2b o2c o2d o2e
 go_wp2_with fail
 refine C2.mono ?_
 rintro e w2 ⟨he,F2,h2,s2⟩
 obtain rfl:e = .returned (.int .i64 (m2:Nat)):=he
 clear C2
 have f2:=s2.f
 have t2:=t1.trans s2
 have T2:=h1.tabs T1 f2
 have hP:=HP.out
 cases hP
 have gb:Fr [] w2 (w2.alloc (.cells #[.int .i64 (m2:Nat)] 3)):=(Fr.refl _ _).alloc _
 have ob:ON (w2.alloc (.cells #[.int .i64 (m2:Nat)] 3)) B (.slice (some ⟨w2.heap.size,0,none⟩) 1 1) [m2]:=ON.built w2 B (by have:=h2.fb pb h2.pf;omega) [m2] (by simp)
 have KV0:=ON.kv ob
 have LO:∀ k∈(Value.slice (some ⟨w2.heap.size,0,none⟩) 1 1).ownBlock.toList,w.heap.size≤k:=fun k hk=>by rw[own_mem hk];exact t2.f.size
 have hb:=h2.fr gb (by simp)
 have tb:=t2.trans (Tr.of0 gb)
 have CL:=lay_any hb KV0 kk [] (tk ts (i)).frm (by have:=B2.out;have:=HTL.out;have:=q2;omega)
 go_wp2_with fail
 refine CL.mono ?_
 rintro e wz ⟨rfl,Fz,hz,fz,sz⟩
 have tz:Tr F w Fz wz:=lay_tr tb fz sz LO
 go_wp2
 go_ret
 exact⟨rfl,Fz,hz,tz⟩
set_option maxHeartbeats 2000000 in
theorem c_brack {ts:List Tok} {B pb:Nat} (hT:Toks ts) {f i:Nat} {ns:List PN} {w:World} {F:List Nat} {r:Except Nat (List Nat×Nat×List PN)} (H:Hyp ts B pb f) (h0:PS ts B pb F i ns w) (T0:Tabs w) (hp:preN ts i ns (.brack)) (hn:ns.length≤2*i+1) (hP:P ts (f+1) (.brack) i ns=some r) : Ctr ts B pb F w r (.brack):=by
 have hi:=h0.ti
 have HTL:Hid (ts.length≤200001):=h0.tl
 simp only[P] at hP
 have HP:Hid (_=some r):=hP
 clear hP
 simp only[Ctr,ptr]
 have t0:=Tr.refl F w
 have HF0:Hid (∀ k∈F,k<w.heap.size):=fun k hk=>(h0.fb k hk).2
 have HN:Hid (ns.length≤2*i+1):=hn
 clear hn
 by_cases e1:nx ts (i) = [40]
 rotate_left
 ·have hP:=HP.out
  rw[wantR_no e1] at hP
  have C1:=want_no h0 [40] e1
  unfold thrown at C1
  cases hP
  go_enter Tryz.func127,Tryz.ntmps127
  go_wp2_with fail
  refine C1.mono ?_
  rintro e w1 ⟨rfl,f1⟩
  exact⟨rfl,rfl,t0.ends (f1.sub (by simp))⟩
 have q1:=hT.more hi (show nx ts (i)≠[] by rw[e1];decide)
 have hP:=HP.out
 rw[wantR_yes e1] at hP
 have HP:Hid (_=some r):=hP
 clear hP
 have C1:=want_yes h0 [40] e1 q1
 unfold tokA at C1
 clear e1
 go_enter Tryz.func127,Tryz.ntmps127
 go_wp2_with fail
 refine C1.mono ?_
 rintro e w1 ⟨rfl,h1,f1⟩
 clear C1
 have s1:=Tr.of f1
 have t1:=t0.trans s1
 have T1:=h0.tabs T0 f1
 have h1:PS ts B pb F (i+1) ns w1:=h1
 have q1:i+1<ts.length:=q1
 rcases bindR_some HP.out with ⟨er,hr,he⟩ | ⟨v2,j2,n2,hr,hP⟩
 ·subst he
  have C2:=H f (.expr) _ _ w1 _ _ (Nat.le_refl _) h1 T1 trivial (by have:=HN.out;omega) hr
  simp only[Ctr,ptr] at C2
  go_wp2_with fail
  refine C2.mono ?_
  rintro e w2 ⟨rfl,f2⟩
  exact⟨rfl,rfl,t1.ends f2⟩
 obtain⟨o2a,o2b,o2c,o2d,o2e⟩:=run_ok hT (nt:=.expr) (ns:=ns) h1.ti trivial hr
 simp only[consN,slack] at o2a o2d
 obtain⟨m2,rfl,hm2⟩:=o2e rfl
 have C2:=H f (.expr) _ _ w1 _ _ (Nat.le_refl _) h1 T1 trivial (by have:=HN.out;omega) hr
 simp only[Ctr,ptr] at C2
 have HP:Hid (_=some r):=hP
 have B2:Hid (n2.length+1≤2*j2+0∧i<j2):=by have:=HN.out;unfold Hid;omega
 have q2:=o2b
 clear hP hr o2a o2b o2c o2d o2e
 go_wp2_with fail
 refine C2.mono ?_
 rintro e w2 ⟨he,F2,h2,s2⟩
 obtain rfl:e = .returned (.int .i64 (m2:Nat)):=he
 clear C2
 have f2:=s2.f
 have t2:=t1.trans s2
 have T2:=h1.tabs T1 f2
 by_cases e3:nx ts (j2) = [41]
 rotate_left
 ·have hP:=HP.out
  rw[wantR_no e3] at hP
  have C3:=want_no h2 [41] e3
  unfold thrown at C3
  cases hP
  go_wp2_with fail
  refine C3.mono ?_
  rintro e w3 ⟨rfl,f3⟩
  exact⟨rfl,rfl,t2.ends (f3.sub (by simp))⟩
 have q3:=hT.more q2 (show nx ts (j2)≠[] by rw[e3];decide)
 have hP:=HP.out
 rw[wantR_yes e3] at hP
 have HP:Hid (_=some r):=hP
 clear hP
 have C3:=want_yes h2 [41] e3 q3
 unfold tokA at C3
 clear e3
 go_wp2_with fail
 refine C3.mono ?_
 rintro e w3 ⟨rfl,h3,f3⟩
 clear C3
 have s3:=Tr.of f3
 have t3:=t2.trans s3
 have T3:=h2.tabs T2 f3
 have h3:PS ts B pb F2 (j2+1) n2 w3:=h3
 have q3:j2+1<ts.length:=q3
 have hP:=HP.out
 cases hP
 go_wp2
 go_ret
 exact⟨rfl,_,h3,t3⟩
set_option maxHeartbeats 1000000 in
theorem lineOf_any (s:List UInt8) (w:World) : Calls Tryz.prog 186 #[.string ⟨s.toArray⟩] w fun e w'=>e = .returned (.int .i64 (lineL s:Nat))∧w' = w:=by
 by_cases e0:s = [61,61]
 ·subst e0
  go_enter Tryz.func186,Tryz.ntmps186
  go_wp2
  go_ret
  exact⟨rfl,rfl⟩
 by_cases e1:s = [33,61]
 ·subst e1
  go_enter Tryz.func186,Tryz.ntmps186
  go_wp2
  go_ret
  exact⟨rfl,rfl⟩
 by_cases e2:s = [60]
 ·subst e2
  go_enter Tryz.func186,Tryz.ntmps186
  go_wp2
  go_ret
  exact⟨rfl,rfl⟩
 by_cases e3:s = [60,61]
 ·subst e3
  go_enter Tryz.func186,Tryz.ntmps186
  go_wp2
  go_ret
  exact⟨rfl,rfl⟩
 by_cases e4:s = [124]
 ·subst e4
  go_enter Tryz.func186,Tryz.ntmps186
  go_wp2
  go_ret
  exact⟨rfl,rfl⟩
 by_cases e5:s = [94]
 ·subst e5
  go_enter Tryz.func186,Tryz.ntmps186
  go_wp2
  go_ret
  exact⟨rfl,rfl⟩
 by_cases e6:s = [38]
 ·subst e6
  go_enter Tryz.func186,Tryz.ntmps186
  go_wp2
  go_ret
  exact⟨rfl,rfl⟩
 by_cases e7:s = [60,60]
 ·subst e7
  go_enter Tryz.func186,Tryz.ntmps186
  go_wp2
  go_ret
  exact⟨rfl,rfl⟩
 by_cases e8:s = [62,62]
 ·subst e8
  go_enter Tryz.func186,Tryz.ntmps186
  go_wp2
  go_ret
  exact⟨rfl,rfl⟩
 by_cases e9:s = [43]
 ·subst e9
  go_enter Tryz.func186,Tryz.ntmps186
  go_wp2
  go_ret
  exact⟨rfl,rfl⟩
 by_cases e10:s = [45]
 ·subst e10
  go_enter Tryz.func186,Tryz.ntmps186
  go_wp2
  go_ret
  exact⟨rfl,rfl⟩
 by_cases e11:s = [42]
 ·subst e11
  go_enter Tryz.func186,Tryz.ntmps186
  go_wp2
  go_ret
  exact⟨rfl,rfl⟩
 by_cases e12:s = [47]
 ·subst e12
  go_enter Tryz.func186,Tryz.ntmps186
  go_wp2
  go_ret
  exact⟨rfl,rfl⟩
 by_cases e13:s = [37]
 ·subst e13
  go_enter Tryz.func186,Tryz.ntmps186
  go_wp2
  go_ret
  exact⟨rfl,rfl⟩
 have HV:Hid (lineL s=0):=by unfold Hid lineL;simp[e0,e1,e2,e3,e4,e5,e6,e7,e8,e9,e10,e11,e12,e13]
 have b0:(s == [61,61])=false:=by simpa using e0
 have b1:(s == [33,61])=false:=by simpa using e1
 have b2:(s == [60])=false:=by simpa using e2
 have b3:(s == [60,61])=false:=by simpa using e3
 have b4:(s == [124])=false:=by simpa using e4
 have b5:(s == [94])=false:=by simpa using e5
 have b6:(s == [38])=false:=by simpa using e6
 have b7:(s == [60,60])=false:=by simpa using e7
 have b8:(s == [62,62])=false:=by simpa using e8
 have b9:(s == [43])=false:=by simpa using e9
 have b10:(s == [45])=false:=by simpa using e10
 have b11:(s == [42])=false:=by simpa using e11
 have b12:(s == [47])=false:=by simpa using e12
 have b13:(s == [37])=false:=by simpa using e13
 clear e0 e1 e2 e3 e4 e5 e6 e7 e8 e9 e10 e11 e12 e13
 generalize lineL s=V at *
 go_enter Tryz.func186,Tryz.ntmps186
 go_wp2
 go_ret
 exact⟨by rw[HV.out];rfl,rfl⟩
set_option maxHeartbeats 1000000 in
theorem isSign_any (s:List UInt8) (w:World) : Calls Tryz.prog 226 #[.string ⟨s.toArray⟩] w fun e w'=>e = .returned (.bool (isSg s))∧w' = w:=by
 by_cases e0:s = [45]
 ·subst e0
  go_enter Tryz.func226,Tryz.ntmps226
  go_wp2
  go_ret
  exact⟨rfl,rfl⟩
 by_cases e1:s = [33]
 ·subst e1
  go_enter Tryz.func226,Tryz.ntmps226
  go_wp2
  go_ret
  exact⟨rfl,rfl⟩
 by_cases e2:s = [126]
 ·subst e2
  go_enter Tryz.func226,Tryz.ntmps226
  go_wp2
  go_ret
  exact⟨rfl,rfl⟩
 have HV:Hid (isSg s=false):=by unfold Hid isSg;simp[e0,e1,e2]
 have b0:(s == [45])=false:=by simpa using e0
 have b1:(s == [33])=false:=by simpa using e1
 have b2:(s == [126])=false:=by simpa using e2
 clear e0 e1 e2
 generalize isSg s=V at *
 go_enter Tryz.func226,Tryz.ntmps226
 go_wp2
 go_ret
 exact⟨by rw[HV.out];rfl,rfl⟩
set_option maxHeartbeats 1000000 in
theorem isPlace_any (k:Nat) (w:World) : Calls Tryz.prog 224 #[.int .i64 (k:Nat)] w fun e w'=>e = .returned (.bool (placeK k))∧w' = w:=by
 by_cases e17:k=17
 ·subst e17
  go_enter Tryz.func224,Tryz.ntmps224
  go_wp2
  go_ret
  exact⟨rfl,rfl⟩
 by_cases e20:k=20
 ·subst e20
  go_enter Tryz.func224,Tryz.ntmps224
  go_wp2
  go_ret
  exact⟨rfl,rfl⟩
 by_cases e21:k=21
 ·subst e21
  go_enter Tryz.func224,Tryz.ntmps224
  go_wp2
  go_ret
  exact⟨rfl,rfl⟩
 by_cases e30:k=30
 ·subst e30
  go_enter Tryz.func224,Tryz.ntmps224
  go_wp2
  go_ret
  exact⟨rfl,rfl⟩
 have HV:Hid (placeK k=false):=by unfold Hid placeK;simp[e17,e20,e21,e30]
 have b17:((k:Int) == 17)=false:=beq_int_false (by omega)
 have b20:((k:Int) == 20)=false:=beq_int_false (by omega)
 have b21:((k:Int) == 21)=false:=beq_int_false (by omega)
 have b30:((k:Int) == 30)=false:=beq_int_false (by omega)
 clear e17 e20 e21 e30
 generalize placeK k=V at *
 go_enter Tryz.func224,Tryz.ntmps224
 go_wp2
 go_ret
 exact⟨by rw[HV.out];rfl,rfl⟩
set_option maxHeartbeats 2000000 in
theorem c_other {ts:List Tok} {B pb:Nat} (hT:Toks ts) {f i:Nat} {ns:List PN} {w:World} {F:List Nat} {r:Except Nat (List Nat×Nat×List PN)} (H:Hyp ts B pb f) (h0:PS ts B pb F i ns w) (T0:Tabs w) (hp:preN ts i ns (.other)) (hn:ns.length≤2*i+1) (hP:P ts (f+1) (.other) i ns=some r) : Ctr ts B pb F w r (.other):=by
 have hi:=h0.ti
 have HTL:Hid (ts.length≤200001):=h0.tl
 simp only[P] at hP
 have HP:Hid (_=some r):=hP
 clear hP
 simp only[Ctr,ptr]
 have t0:=Tr.refl F w
 have HF0:Hid (∀ k∈F,k<w.heap.size):=fun k hk=>(h0.fb k hk).2
 have HN:Hid (ns.length≤2*i+1):=hn
 clear hn
 by_cases e1:nx ts (i) = [101,108,115,101]
 ·have hP:=HP.out
  rw[if_pos e1] at hP
  have HP:Hid (_=some r):=hP
  clear hP
  have q1:=hT.more hi (show nx ts (i)≠[] by rw[e1];decide)
  have C1:=passIf_yes h0 [101,108,115,101] e1 q1
  clear e1
  go_enter Tryz.func163,Tryz.ntmps163
  go_wp2_with fail
  refine C1.mono ?_
  rintro e w1 ⟨rfl,h1,f1⟩
  clear C1
  have s1:=Tr.of f1
  have t1:=t0.trans s1
  have T1:=h0.tabs T0 f1
  have h1:PS ts B pb F (i+1) ns w1:=h1
  have q1:i+1<ts.length:=q1
  rcases r with er | ⟨v2,j2,n2⟩
  ·have C2:=H f (.block 0) _ _ w1 _ _ (Nat.le_refl _) h1 T1 trivial (by have:=HN.out;omega) HP.out
   simp only[Ctr,ptr] at C2
   go_wp2_with fail
   refine C2.mono ?_
   rintro e w2 ⟨rfl,f2⟩
   exact⟨rfl,rfl,t1.ends f2⟩
  ·obtain⟨_,_,_,_,oe⟩:=run_ok hT (nt:=.block 0) (ns:=ns) h1.ti trivial HP.out
   obtain⟨m2,rfl,hm2⟩:=oe rfl
   have C2:=H f (.block 0) _ _ w1 _ _ (Nat.le_refl _) h1 T1 trivial (by have:=HN.out;omega) HP.out
   simp only[Ctr,ptr] at C2
   go_wp2_with fail
   refine C2.mono ?_
   rintro e w2 ⟨he,F2,h2,s2⟩
   obtain rfl:e = .returned (.int .i64 (m2:Nat)):=he
   go_wp2
   go_ret
   exact⟨rfl,F2,h2,t1.trans s2⟩
 ·have hP:=HP.out
  rw[if_neg e1] at hP
  have HP:Hid (_=some r):=hP
  clear hP
  have C1:=passIf_no h0 [101,108,115,101] e1
  clear e1
  go_enter Tryz.func163,Tryz.ntmps163
  go_wp2_with fail
  refine C1.mono ?_
  rintro e w1 ⟨rfl,f1⟩
  clear C1
  have h1:=h0.fr f1 (by simp)
  have t1:=t0.trans (Tr.of0 f1)
  have T1:=T0.fr f1 (by simp)
  have hP:=HP.out
  cases hP
  have KV0:=KV.nil B w1
  have LO:∀ k∈([] : List Nat),w.heap.size≤k:=by simp
  have CL:=lay_any h1 KV0 14 [] 0 (by have:=HN.out;have:=HTL.out;have:=hi;omega)
  go_wp2_with fail
  refine CL.mono ?_
  rintro e wz ⟨rfl,Fz,hz,fz,sz⟩
  have tz:Tr F w Fz wz:=lay_tr t1 fz sz LO
  go_wp2
  go_ret
  exact⟨rfl,Fz,hz,tz⟩
set_option maxHeartbeats 2000000 in
theorem c_nameOrCall {ts:List Tok} {B pb:Nat} (hT:Toks ts) {f i:Nat} {ns:List PN} {w:World} {F:List Nat} {r:Except Nat (List Nat×Nat×List PN)} (H:Hyp ts B pb f) (h0:PS ts B pb F i ns w) (T0:Tabs w) (hp:preN ts i ns (.nameOrCall)) (hn:ns.length≤2*i+1) (hP:P ts (f+1) (.nameOrCall) i ns=some r) : Ctr ts B pb F w r (.nameOrCall):=by
 have hi:=h0.ti
 have HTL:Hid (ts.length≤200001):=h0.tl
 simp only[P] at hP
 have HP:Hid (_=some r):=hP
 clear hP
 simp only[Ctr,ptr]
 have t0:=Tr.refl F w
 have HF0:Hid (∀ k∈F,k<w.heap.size):=fun k hk=>(h0.fb k hk).2
 have HN:Hid (ns.length≤2*i+1):=hn
 clear hn
 have q1:=hT.more hi hp
 have C1:=pass_any h0 q1
 unfold tokA at C1
 go_enter Tryz.func117,Tryz.ntmps117
 go_wp2_with fail
 refine C1.mono ?_
 rintro e w1 ⟨rfl,h1,f1⟩
 clear C1
 have s1:=Tr.of f1
 have t1:=t0.trans s1
 have T1:=h0.tabs T0 f1
 have h1:PS ts B pb F (i+1) ns w1:=h1
 have q1:i+1<ts.length:=q1
 have g2:Fr [] w1 (w1.alloc (.cells #[.int .i64 ((tk ts (i)).kind:Nat),.string ⟨(tk ts (i)).text.toArray⟩,.int .i64 ((tk ts (i)).frm:Nat),.int .i64 ((tk ts (i)).to:Nat),.int .i64 ((tk ts (i)).n:Nat)] 82)):=(Fr.refl _ _).alloc _
 have v2:=TB.new w1 (.int .i64 ((tk ts (i)).kind:Nat)) (.string ⟨(tk ts (i)).text.toArray⟩) (.int .i64 ((tk ts (i)).frm:Nat)) (.int .i64 ((tk ts (i)).to:Nat)) (.int .i64 ((tk ts (i)).n:Nat))
 have ni2:w1.heap.size∉F:=fun hm=>by have:=(h1.fb _ hm).2;omega
 have h2:=h1.fr g2 (by simp)
 have t2:=t1.trans (Tr.of0 g2)
 have T2:=T1.fr g2 (by simp)
 by_cases e3:nx ts (i+1) = [40]
 ·have hP:=HP.out
  rw[if_pos e3] at hP
  have HP:Hid (_=some r):=hP
  clear hP
  have q3:=hT.more q1 (show nx ts (i+1)≠[] by rw[e3];decide)
  have C3:=passIf_yes h2 [40] e3 q3
  clear e3
  go_wp2_with fail
  refine C3.mono ?_
  rintro e w3 ⟨rfl,h3,f3⟩
  clear C3
  have s3:=Tr.of f3
  have t3:=t2.trans s3
  have T3:=h2.tabs T2 f3
  have u0_3:=v2.fr f3 ni2
  have ni0_3:=Tr.notin s3 ni2 v2.lt
  have h3:PS ts B pb F (i+2) ns w3:=h3
  have q3:i+2<ts.length:=q3
  rcases bindR_some HP.out with ⟨er,hr,he⟩ | ⟨v4,j4,n4,hr,hP⟩
  ·subst he
   have C4:=H f (.listed true [41]) _ _ w3 _ _ (Nat.le_refl _) h3 T3 (by simp[preN]) (by have:=HN.out;omega) hr
   simp only[Ctr,ptr,if_true,Bool.false_eq_true,if_false] at C4
   go_wp2_with fail
   refine C4.mono ?_
   rintro e w4 ⟨rfl,f4⟩
   exact⟨rfl,rfl,t3.ends f4⟩
  obtain⟨o4a,o4b,o4c,o4d,_⟩:=run_ok hT (nt:=.listed true [41]) (ns:=ns) h3.ti (by simp[preN]) hr
  simp only[consN,slack] at o4a o4d
  have C4:=H f (.listed true [41]) _ _ w3 _ _ (Nat.le_refl _) h3 T3 (by simp[preN]) (by have:=HN.out;omega) hr
  simp only[Ctr,ptr,if_true,Bool.false_eq_true,if_false] at C4
  have HP:Hid (_=some r):=hP
  have B4:Hid (n4.length+3≤2*j4+0∧i<j4):=by have:=HN.out;unfold Hid;omega
  have q4:=o4b
  clear hP hr o4a o4b o4c o4d
  go_wp2_with fail
  refine C4.mono ?_
  rintro e w4 ⟨x4,F4,rfl,o4,y4,h4,s4⟩
  clear C4
  have f4:=s4.f
  have z4:Hid (∀ k,(x4:Value).ownBlock=some k→w.heap.size≤k):=fun k hk=>Nat.le_trans t3.f.size (y4 k hk).2
  have ny4:∀ k,(x4:Value).ownBlock=some k→k∉F4:=fun k hk=>(y4 k hk).1
  clear y4
  have t4:=t3.trans s4
  have T4:=h3.tabs T3 f4
  have u0_4:=u0_3.fr f4 ni0_3
  have ni0_4:=Tr.notin s4 ni0_3 u0_3.lt
  have hP:=HP.out
  cases hP
  have a0:=u0_4.c1
  have b0:=u0_4.c2
  obtain⟨xa,xc,hx,_⟩:=own_slice o4
  have KV0:=ON.kv o4
  have LO:∀ k∈(x4).ownBlock.toList,w.heap.size≤k:=fun k hk=>z4.out k (by simpa using hk)
  subst hx
  have CL:=lay_any h4 KV0 22 (tk ts (i)).text (tk ts (i)).frm (by have:=B4.out;have:=HTL.out;have:=q4;omega)
  go_wp2_with fail
  refine CL.mono ?_
  rintro e wz ⟨rfl,Fz,hz,fz,sz⟩
  have tz:Tr F w Fz wz:=lay_tr t4 fz sz LO
  go_wp2
  go_ret
  exact⟨rfl,Fz,hz,tz⟩
 ·have hP:=HP.out
  rw[if_neg e3] at hP
  have HP:Hid (_=some r):=hP
  clear hP
  have C3:=passIf_no h2 [40] e3
  clear e3
  go_wp2_with fail
  refine C3.mono ?_
  rintro e w3 ⟨rfl,f3⟩
  clear C3
  have h3:=h2.fr f3 (by simp)
  have t3:=t2.trans (Tr.of0 f3)
  have T3:=T2.fr f3 (by simp)
  have u0_3:=v2.fr f3 (by simp)
  have hP:=HP.out
  cases hP
  have a0:=u0_3.c1
  have b0:=u0_3.c2
  have KV0:=KV.nil B w3
  have LO:∀ k∈([] : List Nat),w.heap.size≤k:=by simp
  have CL:=lay_any h3 KV0 17 (tk ts (i)).text (tk ts (i)).frm (by have:=HN.out;have:=HTL.out;have:=q1;omega)
  go_wp2_with fail
  refine CL.mono ?_
  rintro e wz ⟨rfl,Fz,hz,fz,sz⟩
  have tz:Tr F w Fz wz:=lay_tr t3 fz sz LO
  go_wp2
  go_ret
  exact⟨rfl,Fz,hz,tz⟩
end Go.Proofs.YtnmfcaahdeddnaaGreatDoor
namespace Go.Proofs.YtnmfcaahdeddnaaGreatDoor
open Go.RowKit Go.Shelf
set_option linter.unusedVariables false
set_option linter.unusedSimpArgs false
section
variable {ts:List Tok} {B pb:Nat} {F:List Nat} {w:World} {r:Except Nat (List Nat×Nat×List PN)}
theorem w_70 (C:Ctr ts B pb F w r (.worded 9)) : Calls Tryz.prog 112 #[ptr pb] w (PostS ts B pb F w r):=by
 simp only[Ctr,ptr] at C ⊢
 rcases r with er | ⟨v,j,ms⟩
 ·go_enter Tryz.func112,Tryz.ntmps112
  go_wp2_with fail
  refine C.mono ?_
  rintro e w1 ⟨rfl,f1⟩
  exact⟨rfl,rfl,f1⟩
 ·go_enter Tryz.func112,Tryz.ntmps112
  go_wp2_with fail
  refine C.mono ?_
  rintro e w1 ⟨rfl,F1,h1,t1⟩
  go_wp2
  go_ret
  exact⟨rfl,F1,h1,t1⟩
theorem w_71 (C:Ctr ts B pb F w r (.worded 10)) : Calls Tryz.prog 113 #[ptr pb] w (PostS ts B pb F w r):=by
 simp only[Ctr,ptr] at C ⊢
 rcases r with er | ⟨v,j,ms⟩
 ·go_enter Tryz.func113,Tryz.ntmps113
  go_wp2_with fail
  refine C.mono ?_
  rintro e w1 ⟨rfl,f1⟩
  exact⟨rfl,rfl,f1⟩
 ·go_enter Tryz.func113,Tryz.ntmps113
  go_wp2_with fail
  refine C.mono ?_
  rintro e w1 ⟨rfl,F1,h1,t1⟩
  go_wp2
  go_ret
  exact⟨rfl,F1,h1,t1⟩
theorem w_72 (C:Ctr ts B pb F w r (.worded 11)) : Calls Tryz.prog 114 #[ptr pb] w (PostS ts B pb F w r):=by
 simp only[Ctr,ptr] at C ⊢
 rcases r with er | ⟨v,j,ms⟩
 ·go_enter Tryz.func114,Tryz.ntmps114
  go_wp2_with fail
  refine C.mono ?_
  rintro e w1 ⟨rfl,f1⟩
  exact⟨rfl,rfl,f1⟩
 ·go_enter Tryz.func114,Tryz.ntmps114
  go_wp2_with fail
  refine C.mono ?_
  rintro e w1 ⟨rfl,F1,h1,t1⟩
  go_wp2
  go_ret
  exact⟨rfl,F1,h1,t1⟩
theorem w_76 (C:Ctr ts B pb F w r (.alone 16)) : Calls Tryz.prog 118 #[ptr pb] w (PostS ts B pb F w r):=by
 simp only[Ctr,ptr] at C ⊢
 rcases r with er | ⟨v,j,ms⟩
 ·go_enter Tryz.func118,Tryz.ntmps118
  go_wp2_with fail
  refine C.mono ?_
  rintro e w1 ⟨rfl,f1⟩
  exact⟨rfl,rfl,f1⟩
 ·go_enter Tryz.func118,Tryz.ntmps118
  go_wp2_with fail
  refine C.mono ?_
  rintro e w1 ⟨rfl,F1,h1,t1⟩
  go_wp2
  go_ret
  exact⟨rfl,F1,h1,t1⟩
theorem w_77 (C:Ctr ts B pb F w r (.alone 30)) : Calls Tryz.prog 119 #[ptr pb] w (PostS ts B pb F w r):=by
 simp only[Ctr,ptr] at C ⊢
 rcases r with er | ⟨v,j,ms⟩
 ·go_enter Tryz.func119,Tryz.ntmps119
  go_wp2_with fail
  refine C.mono ?_
  rintro e w1 ⟨rfl,f1⟩
  exact⟨rfl,rfl,f1⟩
 ·go_enter Tryz.func119,Tryz.ntmps119
  go_wp2_with fail
  refine C.mono ?_
  rintro e w1 ⟨rfl,F1,h1,t1⟩
  go_wp2
  go_ret
  exact⟨rfl,F1,h1,t1⟩
theorem w_79 (C:Ctr ts B pb F w r (.about 24)) : Calls Tryz.prog 121 #[ptr pb] w (PostS ts B pb F w r):=by
 simp only[Ctr,ptr] at C ⊢
 rcases r with er | ⟨v,j,ms⟩
 ·go_enter Tryz.func121,Tryz.ntmps121
  go_wp2_with fail
  refine C.mono ?_
  rintro e w1 ⟨rfl,f1⟩
  exact⟨rfl,rfl,f1⟩
 ·go_enter Tryz.func121,Tryz.ntmps121
  go_wp2_with fail
  refine C.mono ?_
  rintro e w1 ⟨rfl,F1,h1,t1⟩
  go_wp2
  go_ret
  exact⟨rfl,F1,h1,t1⟩
theorem w_80 (C:Ctr ts B pb F w r (.about 25)) : Calls Tryz.prog 122 #[ptr pb] w (PostS ts B pb F w r):=by
 simp only[Ctr,ptr] at C ⊢
 rcases r with er | ⟨v,j,ms⟩
 ·go_enter Tryz.func122,Tryz.ntmps122
  go_wp2_with fail
  refine C.mono ?_
  rintro e w1 ⟨rfl,f1⟩
  exact⟨rfl,rfl,f1⟩
 ·go_enter Tryz.func122,Tryz.ntmps122
  go_wp2_with fail
  refine C.mono ?_
  rintro e w1 ⟨rfl,F1,h1,t1⟩
  go_wp2
  go_ret
  exact⟨rfl,F1,h1,t1⟩
theorem w_82 (C:Ctr ts B pb F w r (.about 27)) : Calls Tryz.prog 124 #[ptr pb] w (PostS ts B pb F w r):=by
 simp only[Ctr,ptr] at C ⊢
 rcases r with er | ⟨v,j,ms⟩
 ·go_enter Tryz.func124,Tryz.ntmps124
  go_wp2_with fail
  refine C.mono ?_
  rintro e w1 ⟨rfl,f1⟩
  exact⟨rfl,rfl,f1⟩
 ·go_enter Tryz.func124,Tryz.ntmps124
  go_wp2_with fail
  refine C.mono ?_
  rintro e w1 ⟨rfl,F1,h1,t1⟩
  go_wp2
  go_ret
  exact⟨rfl,F1,h1,t1⟩
theorem w_84 (C:Ctr ts B pb F w r (.about 29)) : Calls Tryz.prog 126 #[ptr pb] w (PostS ts B pb F w r):=by
 simp only[Ctr,ptr] at C ⊢
 rcases r with er | ⟨v,j,ms⟩
 ·go_enter Tryz.func126,Tryz.ntmps126
  go_wp2_with fail
  refine C.mono ?_
  rintro e w1 ⟨rfl,f1⟩
  exact⟨rfl,rfl,f1⟩
 ·go_enter Tryz.func126,Tryz.ntmps126
  go_wp2_with fail
  refine C.mono ?_
  rintro e w1 ⟨rfl,F1,h1,t1⟩
  go_wp2
  go_ret
  exact⟨rfl,F1,h1,t1⟩
theorem w_81 (C:Ctr ts B pb F w r (.empty 26)) : Calls Tryz.prog 123 #[ptr pb] w (PostS ts B pb F w r):=by
 simp only[Ctr,ptr] at C ⊢
 rcases r with er | ⟨v,j,ms⟩
 ·go_enter Tryz.func123,Tryz.ntmps123
  go_wp2_with fail
  refine C.mono ?_
  rintro e w1 ⟨rfl,f1⟩
  exact⟨rfl,rfl,f1⟩
 ·go_enter Tryz.func123,Tryz.ntmps123
  go_wp2_with fail
  refine C.mono ?_
  rintro e w1 ⟨rfl,F1,h1,t1⟩
  go_wp2
  go_ret
  exact⟨rfl,F1,h1,t1⟩
theorem w_83 (C:Ctr ts B pb F w r (.empty 28)) : Calls Tryz.prog 125 #[ptr pb] w (PostS ts B pb F w r):=by
 simp only[Ctr,ptr] at C ⊢
 rcases r with er | ⟨v,j,ms⟩
 ·go_enter Tryz.func125,Tryz.ntmps125
  go_wp2_with fail
  refine C.mono ?_
  rintro e w1 ⟨rfl,f1⟩
  exact⟨rfl,rfl,f1⟩
 ·go_enter Tryz.func125,Tryz.ntmps125
  go_wp2_with fail
  refine C.mono ?_
  rintro e w1 ⟨rfl,F1,h1,t1⟩
  go_wp2
  go_ret
  exact⟨rfl,F1,h1,t1⟩
end
set_option maxHeartbeats 1000000 in
theorem begun_some {ts:List Tok} {B pb:Nat} {F:List Nat} {i:Nat} {ns:List PN} {w:World} {r:Except Nat (List Nat×Nat×List PN)} (h:PS ts B pb F i ns w) {g:Nat} {l:List (List UInt8×Nat)} (hm:RM w g l) {fn:Nat} (hl:l.lookup (nx ts i)=some fn) (eg:∀ args w,(callFunc fn args).run Tryz.prog w = .ok (.enter fn args) w)
 (C:∀ w1,Fr [] w w1→Calls Tryz.prog fn #[ptr pb] w1 (PostS ts B pb F w1 r)) : Calls Tryz.prog 129 #[ptr pb,.map (some g)] w (PostS ts B pb F w r):=by
 have C1:=next_any h
 have HM:Hid (RM w g l):=hm
 have HLK:Hid (l.lookup (nx ts i)=some fn):=hl
 clear hm hl
 unfold ptr at *
 rcases r with er | ⟨v,j,ms⟩
 ·go_enter Tryz.func129,Tryz.ntmps129
  go_wp2_with fail
  refine C1.mono ?_
  rintro e w1 ⟨rfl,f1⟩
  have hlk:=(HM.out.fr f1 (by simp)).some HLK.out
  have C2:=C w1 f1
  clear C C1
  go_wp2_with fail
  refine C2.mono ?_
  rintro e w2 ⟨rfl,f2⟩
  exact⟨rfl,rfl,(Tr.of0 f1).ends f2⟩
 ·go_enter Tryz.func129,Tryz.ntmps129
  go_wp2_with fail
  refine C1.mono ?_
  rintro e w1 ⟨rfl,f1⟩
  have hlk:=(HM.out.fr f1 (by simp)).some HLK.out
  have C2:=C w1 f1
  clear C C1
  go_wp2_with fail
  refine C2.mono ?_
  rintro e w2 ⟨rfl,F2,h2,t2⟩
  go_wp2
  go_ret
  exact⟨rfl,F2,h2,(Tr.of0 f1).trans t2⟩
set_option maxHeartbeats 1000000 in
theorem begun_none {ts:List Tok} {B pb:Nat} {F:List Nat} {i:Nat} {ns:List PN} {w:World} (h:PS ts B pb F i ns w) {g:Nat} {l:List (List UInt8×Nat)} (hm:RM w g l) (hl:l.lookup (nx ts i)=none) : Calls Tryz.prog 129 #[ptr pb,.map (some g)] w (PostS ts B pb F w (.error i)):=by
 have C1:=next_any h
 have HM:Hid (RM w g l):=hm
 have HLK:Hid (l.lookup (nx ts i)=none):=hl
 clear hm hl
 unfold ptr at *
 go_enter Tryz.func129,Tryz.ntmps129
 go_wp2_with fail
 refine C1.mono ?_
 rintro e w1 ⟨rfl,f1⟩
 have hlk:=(HM.out.fr f1 (by simp)).none HLK.out
 have C2:=refuse_any (h.fr f1 (by simp))
 clear C1
 go_wp2_with fail
 refine C2.mono ?_
 rintro e w2 ⟨rfl,f2⟩
 exact⟨rfl,rfl,(Tr.of0 f1).ends (f2.sub (by simp))⟩
theorem c_decl {ts:List Tok} {B pb:Nat} (hT:Toks ts) {f i:Nat} {ns:List PN} {w:World} {F:List Nat} {r:Except Nat (List Nat×Nat×List PN)} (H:Hyp ts B pb f) (h0:PS ts B pb F i ns w) (T0:Tabs w) (hn:ns.length≤2*i+1) (hP:P ts (f+1) .decl i ns=some r) : Ctr ts B pb F w r .decl:=by
 simp only[P] at hP
 simp only[Ctr]
 intro g hg
 have nn:∀ l:List UInt8,l≠[]→nx ts i=l→nx ts i≠[]:=fun l hl e=>by rw[e];exact hl
 by_cases e0:nx ts i = [114,101,99]
 ·rw[e0,show declNT [114,101,99]=some (.recd) from rfl] at hP
  refine begun_some h0 hg (fn:=107) (by rw[e0];rfl) (enters_of Tryz.func107 (by kernel_rfl) rfl) (fun w1 f1=>?_)
  exact H f (.recd) i ns w1 F r (Nat.le_refl _) (h0.fr f1 (by simp)) (T0.fr f1 (by simp)) (nn _ (by decide) e0) hn hP
 by_cases e1:nx ts i = [102,110]
 ·rw[e1,show declNT [102,110]=some (.func) from rfl] at hP
  refine begun_some h0 hg (fn:=108) (by rw[e1];rfl) (enters_of Tryz.func108 (by kernel_rfl) rfl) (fun w1 f1=>?_)
  exact H f (.func) i ns w1 F r (Nat.le_refl _) (h0.fr f1 (by simp)) (T0.fr f1 (by simp)) (nn _ (by decide) e1) hn hP
 rw[show declNT (nx ts i)=none by unfold declNT;rw[if_neg e0,if_neg e1]] at hP
 cases hP
 exact begun_none h0 hg (by simp[declM,List.lookup,e0,e1,beq_eq_false_iff_ne.2 e0,beq_eq_false_iff_ne.2 e1])
theorem c_first {ts:List Tok} {B pb:Nat} (hT:Toks ts) {f i:Nat} {ns:List PN} {w:World} {F:List Nat} {r:Except Nat (List Nat×Nat×List PN)} (H:Hyp ts B pb f) (h0:PS ts B pb F i ns w) (T0:Tabs w) (hn:ns.length≤2*i+1) (hP:P ts (f+1) .first i ns=some r) : Ctr ts B pb F w r .first:=by
 simp only[P] at hP
 simp only[Ctr]
 intro g hg
 have nn:∀ l:List UInt8,l≠[]→nx ts i=l→nx ts i≠[]:=fun l hl e=>by rw[e];exact hl
 by_cases e0:nx ts i = [110,117,109,98,101,114]
 ·rw[e0,show firstNT [110,117,109,98,101,114]=some (.number) from rfl] at hP
  refine begun_some h0 hg (fn:=116) (by rw[e0];rfl) (enters_of Tryz.func116 (by kernel_rfl) rfl) (fun w1 f1=>?_)
  exact H f (.number) i ns w1 F r (Nat.le_refl _) (h0.fr f1 (by simp)) (T0.fr f1 (by simp)) (nn _ (by decide) e0) hn hP
 by_cases e1:nx ts i = [110,97,109,101]
 ·rw[e1,show firstNT [110,97,109,101]=some (.nameOrCall) from rfl] at hP
  refine begun_some h0 hg (fn:=117) (by rw[e1];rfl) (enters_of Tryz.func117 (by kernel_rfl) rfl) (fun w1 f1=>?_)
  exact H f (.nameOrCall) i ns w1 F r (Nat.le_refl _) (h0.fr f1 (by simp)) (T0.fr f1 (by simp)) (nn _ (by decide) e1) hn hP
 by_cases e2:nx ts i = [110,117,108,108]
 ·rw[e2,show firstNT [110,117,108,108]=some (.alone 16) from rfl] at hP
  refine begun_some h0 hg (fn:=118) (by rw[e2];rfl) (enters_of Tryz.func118 (by kernel_rfl) rfl) (fun w1 f1=>?_)
  exact w_76 (H f (.alone 16) i ns w1 F r (Nat.le_refl _) (h0.fr f1 (by simp)) (T0.fr f1 (by simp)) (nn _ (by decide) e2) hn hP)
 by_cases e3:nx ts i = [114,111,111,116]
 ·rw[e3,show firstNT [114,111,111,116]=some (.alone 30) from rfl] at hP
  refine begun_some h0 hg (fn:=119) (by rw[e3];rfl) (enters_of Tryz.func119 (by kernel_rfl) rfl) (fun w1 f1=>?_)
  exact w_77 (H f (.alone 30) i ns w1 F r (Nat.le_refl _) (h0.fr f1 (by simp)) (T0.fr f1 (by simp)) (nn _ (by decide) e3) hn hP)
 by_cases e4:nx ts i = [110,101,119]
 ·rw[e4,show firstNT [110,101,119]=some (.made) from rfl] at hP
  refine begun_some h0 hg (fn:=120) (by rw[e4];rfl) (enters_of Tryz.func120 (by kernel_rfl) rfl) (fun w1 f1=>?_)
  exact H f (.made) i ns w1 F r (Nat.le_refl _) (h0.fr f1 (by simp)) (T0.fr f1 (by simp)) (nn _ (by decide) e4) hn hP
 by_cases e5:nx ts i = [97,114,114]
 ·rw[e5,show firstNT [97,114,114]=some (.about 24) from rfl] at hP
  refine begun_some h0 hg (fn:=121) (by rw[e5];rfl) (enters_of Tryz.func121 (by kernel_rfl) rfl) (fun w1 f1=>?_)
  exact w_79 (H f (.about 24) i ns w1 F r (Nat.le_refl _) (h0.fr f1 (by simp)) (T0.fr f1 (by simp)) (nn _ (by decide) e5) hn hP)
 by_cases e6:nx ts i = [108,101,110]
 ·rw[e6,show firstNT [108,101,110]=some (.about 25) from rfl] at hP
  refine begun_some h0 hg (fn:=122) (by rw[e6];rfl) (enters_of Tryz.func122 (by kernel_rfl) rfl) (fun w1 f1=>?_)
  exact w_80 (H f (.about 25) i ns w1 F r (Nat.le_refl _) (h0.fr f1 (by simp)) (T0.fr f1 (by simp)) (nn _ (by decide) e6) hn hP)
 by_cases e7:nx ts i = [105,110]
 ·rw[e7,show firstNT [105,110]=some (.empty 26) from rfl] at hP
  refine begun_some h0 hg (fn:=123) (by rw[e7];rfl) (enters_of Tryz.func123 (by kernel_rfl) rfl) (fun w1 f1=>?_)
  exact w_81 (H f (.empty 26) i ns w1 F r (Nat.le_refl _) (h0.fr f1 (by simp)) (T0.fr f1 (by simp)) (nn _ (by decide) e7) hn hP)
 by_cases e8:nx ts i = [105,109,103]
 ·rw[e8,show firstNT [105,109,103]=some (.about 27) from rfl] at hP
  refine begun_some h0 hg (fn:=124) (by rw[e8];rfl) (enters_of Tryz.func124 (by kernel_rfl) rfl) (fun w1 f1=>?_)
  exact w_82 (H f (.about 27) i ns w1 F r (Nat.le_refl _) (h0.fr f1 (by simp)) (T0.fr f1 (by simp)) (nn _ (by decide) e8) hn hP)
 by_cases e9:nx ts i = [115,105,122,101]
 ·rw[e9,show firstNT [115,105,122,101]=some (.empty 28) from rfl] at hP
  refine begun_some h0 hg (fn:=125) (by rw[e9];rfl) (enters_of Tryz.func125 (by kernel_rfl) rfl) (fun w1 f1=>?_)
  exact w_83 (H f (.empty 28) i ns w1 F r (Nat.le_refl _) (h0.fr f1 (by simp)) (T0.fr f1 (by simp)) (nn _ (by decide) e9) hn hP)
 by_cases e10:nx ts i = [112,114,111,109,111,116,101]
 ·rw[e10,show firstNT [112,114,111,109,111,116,101]=some (.about 29) from rfl] at hP
  refine begun_some h0 hg (fn:=126) (by rw[e10];rfl) (enters_of Tryz.func126 (by kernel_rfl) rfl) (fun w1 f1=>?_)
  exact w_84 (H f (.about 29) i ns w1 F r (Nat.le_refl _) (h0.fr f1 (by simp)) (T0.fr f1 (by simp)) (nn _ (by decide) e10) hn hP)
 by_cases e11:nx ts i = [40]
 ·rw[e11,show firstNT [40]=some (.brack) from rfl] at hP
  refine begun_some h0 hg (fn:=127) (by rw[e11];rfl) (enters_of Tryz.func127 (by kernel_rfl) rfl) (fun w1 f1=>?_)
  exact H f (.brack) i ns w1 F r (Nat.le_refl _) (h0.fr f1 (by simp)) (T0.fr f1 (by simp)) trivial hn hP
 rw[show firstNT (nx ts i)=none by unfold firstNT;rw[if_neg e0,if_neg e1,if_neg e2,if_neg e3,if_neg e4,if_neg e5,if_neg e6,if_neg e7,if_neg e8,if_neg e9,if_neg e10,if_neg e11]] at hP
 cases hP
 exact begun_none h0 hg (by simp[firstM,List.lookup,beq_eq_false_iff_ne.2 e0,beq_eq_false_iff_ne.2 e1,beq_eq_false_iff_ne.2 e2,beq_eq_false_iff_ne.2 e3,beq_eq_false_iff_ne.2 e4,beq_eq_false_iff_ne.2 e5,beq_eq_false_iff_ne.2 e6,beq_eq_false_iff_ne.2 e7,beq_eq_false_iff_ne.2 e8,beq_eq_false_iff_ne.2 e9,beq_eq_false_iff_ne.2 e10,beq_eq_false_iff_ne.2 e11])
theorem PS.maps {ts:List Tok} {B pb:Nat} {F:List Nat} {i:Nat} {ns:List PN} {w:World} (h:PS ts B pb F i ns w) : ∃ v0 v1 v2 bd bs bf,w.heap[pb]? = some (.cells #[v0,v1,v2,.map (some bd),.map (some bs),.map (some bf)] 135 (0,0))∧RM w bd declM∧RM w bs stmtM∧RM w bf firstM:=by
 obtain⟨tg,tc,nv,bd,bs,bf,L,h1,h2,h3,h4,h5,h6,h7,h8,h9,h10,_⟩:=h.ex
 exact⟨_,_,_,bd,bs,bf,h1,h6,h8,h10⟩
set_option maxHeartbeats 1000000 in
theorem stmt_some {ts:List Tok} {B pb:Nat} {F:List Nat} {i:Nat} {ns:List PN} {w:World} {r:Except Nat (List Nat×Nat×List PN)} (h:PS ts B pb F i ns w) {fn:Nat} (hl:stmtM.lookup (nx ts i)=some fn) (eg:∀ args w,(callFunc fn args).run Tryz.prog w = .ok (.enter fn args) w)
 (C:∀ w1,Fr [] w w1→Calls Tryz.prog fn #[ptr pb] w1 (PostS ts B pb F w1 r)) : Calls Tryz.prog 184 #[ptr pb] w (PostS ts B pb F w r):=by
 obtain⟨v0,v1,v2,bd,bs,bf,hb,_,hm,_⟩:=h.maps
 obtain⟨_,_,_,_,c4,_,_⟩:=pt_cells hb
 have r4:∀ w',Fr [] w w'→w'.cell? ⟨pb,4,none⟩=_:=fun w' f=>f.cell1 c4 (by simp)
 have HM:Hid (RM w bs stmtM):=hm
 have HLK:Hid (stmtM.lookup (nx ts i)=some fn):=hl
 have f0:Fr [] w w:=Fr.refl _ _
 clear hb hm hl c4
 unfold ptr at *
 rcases r with er | ⟨v,j,ms⟩
 ·go_enter Tryz.func184,Tryz.ntmps184
  go_wp2
  go_region_held3 (fun w'=>Fr [] w w') (with_reducible (first | assumption | (refine Fr.drew ?_;assumption)))
   (first | (go_at_call 128;refine (next_any (h.fr (S:=[]) (by first | assumption | exact Fr.drew (Fr.refl _ _)) (by simp))).mono ?_;rintro e w1 ⟨rfl,f1⟩;have f01:Fr [] w w1:=((Fr.refl [] w).drew).trans f1;have hlk:=(HM.out.fr f01 (by simp)).some HLK.out))
  have f01' : Fr [] w w1:=by assumption
  have C2:=C w1 f01'
  clear C r4
  go_wp2_with fail
  refine C2.mono ?_
  rintro e w2 ⟨rfl,f2⟩
  exact⟨rfl,rfl,(Tr.of0 f01').ends f2⟩
 ·go_enter Tryz.func184,Tryz.ntmps184
  go_wp2
  go_region_held3 (fun w'=>Fr [] w w') (with_reducible (first | assumption | (refine Fr.drew ?_;assumption)))
   (first | (go_at_call 128;refine (next_any (h.fr (S:=[]) (by first | assumption | exact Fr.drew (Fr.refl _ _)) (by simp))).mono ?_;rintro e w1 ⟨rfl,f1⟩;have f01:Fr [] w w1:=((Fr.refl [] w).drew).trans f1;have hlk:=(HM.out.fr f01 (by simp)).some HLK.out))
  have f01' : Fr [] w w1:=by assumption
  have C2:=C w1 f01'
  clear C r4
  go_wp2_with fail
  refine C2.mono ?_
  rintro e w2 ⟨rfl,F2,h2,t2⟩
  go_wp2
  go_ret
  exact⟨rfl,F2,h2,(Tr.of0 f01').trans t2⟩
set_option maxHeartbeats 1000000 in
theorem stmt_none {ts:List Tok} {B pb:Nat} {F:List Nat} {i:Nat} {ns:List PN} {w:World} {r:Except Nat (List Nat×Nat×List PN)} (h:PS ts B pb F i ns w) (hl:stmtM.lookup (nx ts i)=none)
 (C:∀ w1,Fr [] w w1→Calls Tryz.prog 205 #[ptr pb] w1 (PostS ts B pb F w1 r)) : Calls Tryz.prog 184 #[ptr pb] w (PostS ts B pb F w r):=by
 obtain⟨v0,v1,v2,bd,bs,bf,hb,_,hm,_⟩:=h.maps
 obtain⟨_,_,_,_,c4,_,_⟩:=pt_cells hb
 have r4:∀ w',Fr [] w w'→w'.cell? ⟨pb,4,none⟩=_:=fun w' f=>f.cell1 c4 (by simp)
 have HM:Hid (RM w bs stmtM):=hm
 have HLK:Hid (stmtM.lookup (nx ts i)=none):=hl
 have f0:Fr [] w w:=Fr.refl _ _
 clear hb hm hl c4
 unfold ptr at *
 rcases r with er | ⟨v,j,ms⟩
 ·go_enter Tryz.func184,Tryz.ntmps184
  go_wp2
  go_region_held3 (fun w'=>Fr [] w w') (with_reducible (first | assumption | (refine Fr.drew ?_;assumption)))
   (first | (go_at_call 128;refine (next_any (h.fr (S:=[]) (by first | assumption | exact Fr.drew (Fr.refl _ _)) (by simp))).mono ?_;rintro e w1 ⟨rfl,f1⟩;have f01:Fr [] w w1:=((Fr.refl [] w).drew).trans f1;have hlk:=(HM.out.fr f01 (by simp)).none HLK.out))
  have f01' : Fr [] w w1:=by assumption
  have C2:=C w1 f01'
  clear C r4
  go_wp2_with fail
  refine C2.mono ?_
  rintro e w2 ⟨rfl,f2⟩
  exact⟨rfl,rfl,(Tr.of0 f01').ends f2⟩
 ·go_enter Tryz.func184,Tryz.ntmps184
  go_wp2
  go_region_held3 (fun w'=>Fr [] w w') (with_reducible (first | assumption | (refine Fr.drew ?_;assumption)))
   (first | (go_at_call 128;refine (next_any (h.fr (S:=[]) (by first | assumption | exact Fr.drew (Fr.refl _ _)) (by simp))).mono ?_;rintro e w1 ⟨rfl,f1⟩;have f01:Fr [] w w1:=((Fr.refl [] w).drew).trans f1;have hlk:=(HM.out.fr f01 (by simp)).none HLK.out))
  have f01' : Fr [] w w1:=by assumption
  have C2:=C w1 f01'
  clear C r4
  go_wp2_with fail
  refine C2.mono ?_
  rintro e w2 ⟨rfl,F2,h2,t2⟩
  go_wp2
  go_ret
  exact⟨rfl,F2,h2,(Tr.of0 f01').trans t2⟩
theorem c_stmt {ts:List Tok} {B pb:Nat} (hT:Toks ts) {f i:Nat} {ns:List PN} {w:World} {F:List Nat} {r:Except Nat (List Nat×Nat×List PN)} (H:Hyp ts B pb f) (h0:PS ts B pb F i ns w) (T0:Tabs w) (hn:ns.length≤2*i+1) (hP:P ts (f+1) .stmt i ns=some r) : Ctr ts B pb F w r .stmt:=by
 simp only[P] at hP
 simp only[Ctr]
 have nn:∀ l:List UInt8,l≠[]→nx ts i=l→nx ts i≠[]:=fun l hl e=>by rw[e];exact hl
 by_cases e0:nx ts i = [108,101,116]
 ·rw[e0,show stmtNT [108,101,116]=some (.letS) from rfl] at hP
  refine stmt_some h0 (fn:=109) (by rw[e0];rfl) (enters_of Tryz.func109 (by kernel_rfl) rfl) (fun w1 f1=>?_)
  exact H f (.letS) i ns w1 F r (Nat.le_refl _) (h0.fr f1 (by simp)) (T0.fr f1 (by simp)) (nn _ (by decide) e0) hn hP
 by_cases e1:nx ts i = [105,102]
 ·rw[e1,show stmtNT [105,102]=some (.choice) from rfl] at hP
  refine stmt_some h0 (fn:=110) (by rw[e1];rfl) (enters_of Tryz.func110 (by kernel_rfl) rfl) (fun w1 f1=>?_)
  exact H f (.choice) i ns w1 F r (Nat.le_refl _) (h0.fr f1 (by simp)) (T0.fr f1 (by simp)) (nn _ (by decide) e1) hn hP
 by_cases e2:nx ts i = [119,104,105,108,101]
 ·rw[e2,show stmtNT [119,104,105,108,101]=some (.whileS) from rfl] at hP
  refine stmt_some h0 (fn:=111) (by rw[e2];rfl) (enters_of Tryz.func111 (by kernel_rfl) rfl) (fun w1 f1=>?_)
  exact H f (.whileS) i ns w1 F r (Nat.le_refl _) (h0.fr f1 (by simp)) (T0.fr f1 (by simp)) (nn _ (by decide) e2) hn hP
 by_cases e3:nx ts i = [114,101,116,117,114,110]
 ·rw[e3,show stmtNT [114,101,116,117,114,110]=some (.worded 9) from rfl] at hP
  refine stmt_some h0 (fn:=112) (by rw[e3];rfl) (enters_of Tryz.func112 (by kernel_rfl) rfl) (fun w1 f1=>?_)
  exact w_70 (H f (.worded 9) i ns w1 F r (Nat.le_refl _) (h0.fr f1 (by simp)) (T0.fr f1 (by simp)) (nn _ (by decide) e3) hn hP)
 by_cases e4:nx ts i = [111,117,116]
 ·rw[e4,show stmtNT [111,117,116]=some (.worded 10) from rfl] at hP
  refine stmt_some h0 (fn:=113) (by rw[e4];rfl) (enters_of Tryz.func113 (by kernel_rfl) rfl) (fun w1 f1=>?_)
  exact w_71 (H f (.worded 10) i ns w1 F r (Nat.le_refl _) (h0.fr f1 (by simp)) (T0.fr f1 (by simp)) (nn _ (by decide) e4) hn hP)
 by_cases e5:nx ts i = [115,116,111,112]
 ·rw[e5,show stmtNT [115,116,111,112]=some (.worded 11) from rfl] at hP
  refine stmt_some h0 (fn:=114) (by rw[e5];rfl) (enters_of Tryz.func114 (by kernel_rfl) rfl) (fun w1 f1=>?_)
  exact w_72 (H f (.worded 11) i ns w1 F r (Nat.le_refl _) (h0.fr f1 (by simp)) (T0.fr f1 (by simp)) (nn _ (by decide) e5) hn hP)
 by_cases e6:nx ts i = [109,101,114,103,101]
 ·rw[e6,show stmtNT [109,101,114,103,101]=some (.merge) from rfl] at hP
  refine stmt_some h0 (fn:=115) (by rw[e6];rfl) (enters_of Tryz.func115 (by kernel_rfl) rfl) (fun w1 f1=>?_)
  exact H f (.merge) i ns w1 F r (Nat.le_refl _) (h0.fr f1 (by simp)) (T0.fr f1 (by simp)) (nn _ (by decide) e6) hn hP
 rw[show stmtNT (nx ts i)=none by unfold stmtNT;rw[if_neg e0,if_neg e1,if_neg e2,if_neg e3,if_neg e4,if_neg e5,if_neg e6]] at hP
 exact stmt_none h0 (by simp[stmtM,List.lookup,beq_eq_false_iff_ne.2 e0,beq_eq_false_iff_ne.2 e1,beq_eq_false_iff_ne.2 e2,beq_eq_false_iff_ne.2 e3,beq_eq_false_iff_ne.2 e4,beq_eq_false_iff_ne.2 e5,beq_eq_false_iff_ne.2 e6]) (fun w1 f1=>H f .setOrDo i ns w1 F r (Nat.le_refl _) (h0.fr f1 (by simp)) (T0.fr f1 (by simp)) trivial hn hP)
def posOf (pb:Nat) (w:World) : Nat:=match w.cell? ⟨pb,1,none⟩ with | some (.int _ i)=>i.toNat | _=>0
theorem PS.pos {ts:List Tok} {B pb:Nat} {F:List Nat} {i:Nat} {ns:List PN} {w:World} (h:PS ts B pb F i ns w) : posOf pb w=i:=by
 obtain⟨v0,v1,v2,v3,v4,v5,h1,_⟩:=h.pt
 obtain⟨_,c1,_⟩:=pt_cells h1.blk
 unfold posOf
 rw[c1]
 simp
theorem info3:(Tryz.prog.info? 3).map (fun i=>(i.zero,i.size,i.bytes))=some (some (.int .i64 0),1,8):=by kernel_rfl
theorem under35:Tryz.prog.underlying 26=some (.slice 3):=by kernel_rfl
theorem one_new (W:World) (z:Int) : ∀ j u,[Value.int .i64 z][j]? = some u→(W.alloc (.cells #[.int .i64 z] 3)).cell? ((⟨W.heap.size,0,none⟩ : Addr).add j)=some u:=by
 intro j u hu
 have hadd:(⟨W.heap.size,0,none⟩ : Addr).add j = ⟨W.heap.size,j,none⟩:=by unfold Addr.add;split <;> simp_all
 rw[hadd]
 exact at_cells (heap_alloc_new W _) j (by simpa using hu)
theorem row_tr {F F1 G:List Nat} {w w1 w2:World} (t:Tr F w F1 w1) (k:Fr G w1 w2) (h:∀ j∈G,w.heap.size≤j) : Tr F w F1 w2 :=
 ⟨⟨k.os.trans t.f.os,k.tape.trans t.f.tape,k.output.trans t.f.output,Nat.le_trans t.f.size k.size,fun j hj hF=>by
   rw[k.block j (Nat.lt_of_lt_of_le hj t.f.size) (fun hm=>by have:=h j hm;omega)]
   exact t.f.block j hj hF⟩,t.s⟩
structure KR (B:Nat) (w:World) (F:List Nat) (wr:World) (kv:Value) (acc:List Nat) : Prop where
 on:ON wr B kv acc
 ni:∀ k,kv.ownBlock=some k→k∉F
 lo:∀ k,kv.ownBlock=some k→w.heap.size≤k
theorem KR.nil (B:Nat) (w:World) (F:List Nat) (wr:World) : KR B w F wr (.slice none 0 0) []:=⟨ON.nil _ _,fun k h=>by simp[Value.ownBlock] at h,fun k h=>by simp[Value.ownBlock] at h⟩
theorem KR.tr {B:Nat} {w:World} {F F' : List Nat} {wr wr' : World} {kv:Value} {acc:List Nat} (h:KR B w F wr kv acc) (t:Tr F wr F' wr') : KR B w F' wr' kv acc :=
 ⟨own_fr h.on t.f (fun k hk=>h.ni k hk),fun k hk=>t.notin (h.ni k hk) (h.on.lt k hk).2,h.lo⟩
theorem KR.snoc {B:Nat} {w:World} {F:List Nat} {wr w3:World} {kv v1:Value} {acc:List Nat} {m:Nat} (h:KR B w F wr kv acc) (hw:w.heap.size≤wr.heap.size) (hF:∀ k∈F,k<wr.heap.size) (ho:w3.ownsRow B 3 1 v1 (acc.length+1) (acc.map (fun k=>Value.int .i64 (k:Nat))++[.int .i64 (m:Nat)])) (hl:v1.ownBlock=kv.ownBlock∨v1.ownBlock=some (wr.heap.size+1)) : KR B w F w3 v1 (acc++[m]):=by
 refine⟨?_,fun k hk=>?_,fun k hk=>?_⟩
 ·unfold ON
  simpa using ho
 ·rcases hl with e | e
  ·exact h.ni k (by rw[← e];exact hk)
  ·rw[e] at hk
   simp at hk
   exact fun hm=>by have:=hF k hm;omega
 ·rcases hl with e | e
  ·exact h.lo k (by rw[← e];exact hk)
  ·rw[e] at hk
   simp at hk
   omega
set_option maxHeartbeats 4000000 in
theorem c_block {ts:List Tok} {B pb:Nat} (hT:Toks ts) {f i pl0:Nat} {ns:List PN} {w:World} {F:List Nat} {r:Except Nat (List Nat×Nat×List PN)} (H:Hyp ts B pb f) (h0:PS ts B pb F i ns w) (T0:Tabs w) (hn:ns.length≤2*i+1) (hP:P ts (f+1) (.block pl0) i ns=some r) : Ctr ts B pb F w r (.block pl0):=by
 obtain⟨i3,hi3,hz,hz1,hby⟩:=info_parts info3
 have hi:=h0.ti
 have HTL:Hid (ts.length≤200001):=h0.tl
 have HBW:Hid (B≤w.heap.size):=by have:=h0.fb pb h0.pf;unfold Hid;omega
 simp only[P] at hP
 simp only[Ctr,ptr]
 by_cases e1:nx ts i = [123]
 ·rw[wantR_yes e1] at hP
  have q1:=hT.more hi (show nx ts i≠[] by rw[e1];decide)
  have C1:=want_yes h0 [123] e1 q1
  unfold tokA at C1
  have HP:Hid (P ts f (.blockL (tk ts i).frm []) (i+1) ns=some r):=hP
  clear hP e1
  go_enter Tryz.func161,Tryz.ntmps161
  go_wp2_with fail
  refine C1.mono ?_
  rintro e w1 ⟨rfl,h1,f1⟩
  have fl:=fld2 ((tk ts i).kind:Nat) ((tk ts i).frm:Nat) ((tk ts i).to:Nat) ((tk ts i).n:Nat) ⟨(tk ts i).text.toArray⟩ w1
  have T1:=h0.tabs T0 f1
  have t1:=(Tr.refl F w).trans (Tr.of f1)
  clear C1
  go_wp2
  clear fl
  generalize (tk ts i).frm=pl at *
  go_loopw [4] (fun kv wr=>∃ g acc i' ns' F',g≤f∧PS ts B pb F' i' ns' wr∧Tabs wr∧KR B w F' wr kv acc∧Tr F w F' wr∧Hid (ns'.length+1≤2*i'∧i<i'∧acc.length≤i')∧Hid (P ts g (.blockL pl acc) i' ns' = some r)) (fun _ wr=>ts.length-posOf pb wr)
  case atStart=>exact⟨f,[],i+1,ns,F,Nat.le_refl _,h1,T1,KR.nil _ _ _ _,t1,by unfold Hid;simp;omega,HP⟩
  case round =>
   obtain⟨g,acc,p,ms,F1,hg,hps,hTb,hkr,htr,hbd,hPP⟩:=hrel
   clear h1 T1 t1 HP f1
   have HG:Hid (g≤f):=hg
   have hpi:=hps.ti
   have HPI:Hid (p<ts.length∧posOf pb wr=p):=⟨hpi,hps.pos⟩
   clear hg
   obtain⟨ka,kc,hkv,_⟩:=own_slice hkr.on
   subst hkv
   cases g with
   | zero=>exact absurd hPP.out (by simp[P])
   | succ g =>
     have hP:=hPP.out
     clear hPP
     simp only[P] at hP
     by_cases e:nx ts p = [125]
     ·rw[if_pos e] at hP
      cases hP
      have q2:=hT.more hpi (show nx ts p≠[] by rw[e];decide)
      have C2:=passIf_yes hps [125] e q2
      clear e
      go_wp2_with fail
      refine C2.mono ?_
      rintro e w2 ⟨rfl,h2,f2⟩
      have k2:=hkr.tr (Tr.of f2)
      have CL:=lay_any h2 (ON.kv k2.on) 4 [] pl (by have:=hbd.out;have:=HTL.out;omega)
      clear C2
      go_wp2_with fail
      refine CL.mono ?_
      rintro e wz ⟨rfl,Fz,hz',fz,sz⟩
      have tz:Tr F w Fz wz:=lay_tr (htr.trans (Tr.of f2)) fz sz (fun k hk=>k2.lo k (by simpa using hk))
      go_wp2
      go_ret
      exact⟨rfl,Fz,hz',tz⟩
     ·rw[if_neg e] at hP
      have C2:=passIf_no hps [125] e
      clear e
      go_wp2_with fail
      refine C2.mono ?_
      rintro e w2 ⟨rfl,f2⟩
      have h2:=hps.fr f2 (by simp)
      have T2:=hTb.fr f2 (by simp)
      have k2:=hkr.tr (Tr.of0 f2)
      have t2:=htr.trans (Tr.of0 f2)
      clear C2
      rcases bindR_some hP with ⟨er,hr,he⟩ | ⟨v3,j3,n3,hr,hP3⟩
      ·subst he
       have C3:=H g .stmt _ _ w2 _ _ (by have:=HG.out;omega) h2 T2 trivial (by have:=hbd.out;omega) hr
       simp only[Ctr,ptr] at C3
       go_wp2_with fail
       refine C3.mono ?_
       rintro e w3 ⟨rfl,f3⟩
       exact⟨rfl,rfl,t2.ends f3⟩
      ·obtain⟨oa,ob,oc,od,oe⟩:=run_ok hT (nt:=.stmt) (ns:=ms) h2.ti trivial hr
       simp only[consN,slack] at oa od
       obtain⟨m3,rfl,hm3⟩:=oe rfl
       have C3:=H g .stmt _ _ w2 _ _ (by have:=HG.out;omega) h2 T2 trivial (by have:=hbd.out;omega) hr
       simp only[Ctr,ptr] at C3
       have HP3:Hid (P ts g (.blockL pl (acc++[m3])) j3 n3=some r):=hP3
       have hb3:Hid (n3.length+1≤2*j3∧i<j3∧acc.length+1≤j3∧p<j3∧j3<ts.length):=by have:=hbd.out;unfold Hid;omega
       clear hP hr oa ob oc od oe hP3
       go_wp2_with fail
       refine C3.mono ?_
       rintro e w3 ⟨he,F3,h3,s3⟩
       obtain rfl:e = .returned (.int .i64 (m3:Nat)):=he
       have k3:=k2.tr s3
       have t3:=t2.trans s3
       have T3:=h2.tabs T2 s3.f
       have HB3:Hid (B≤w3.heap.size):=by have:=HBW.out;have:=t3.f.size;unfold Hid;omega
       clear C3
       go_wp2_with (at_builtin;refine wpList_append_own_at _ rfl _ _ 26 rfl B 3 i3 (.int .i64 0) 1 8 under35 hi3 hz hz1 hby rfl (by decide) (.slice ka acc.length kc) acc.length (acc.map (fun k=>Value.int .i64 (k:Nat))) rfl (k3.on.alloc _) ⟨w3.heap.size,0,none⟩ 1 1 [.int .i64 (m3:Nat)] rfl rfl (one_new w3 _) (by simp[Value.oneCell']) (by have:=hb3.out;have:=HTL.out;unfold maxLen;omega) (by have:=hb3.out;have:=HTL.out;omega) (by have:=HB3.out;simp;omega) ?_)
       intro v4 w4 hown4 hgrow4 hnil4 hloc4
       have f4:Fr (Value.slice ka acc.length kc).ownBlock.toList w3 w4:=((Fr.refl _ _).alloc _).trans ((Fr.ofGrown hgrow4).sub (fun k hk=>.inl hk))
       have hni:∀ k∈(Value.slice ka acc.length kc).ownBlock.toList,k∉F3:=fun k hk=>k3.ni k (by simpa using hk)
       have h4:=h3.fr f4 hni
       have T4:Tabs w4:=T3.fr f4 (fun k hk=>by have:=(k3.on.lt k (by simpa using hk)).1;have:=h3.lo;omega)
       have k4:=k3.snoc t3.f.size (fun k hk=>(h3.fb k hk).2) hown4 (by simpa using hloc4)
       have t4:Tr F w F3 w4:=row_tr t3 f4 (fun k hk=>k3.lo k (by simpa using hk))
       clear hgrow4 hnil4 hloc4 f4 hni h3 T3 k3 t3 k2 t2 h2 T2 hkr hps hTb htr hown4
       have HM4:Hid (posOf pb w4=j3):=h4.pos
       go_wp2
       go_roundw
       case rel=>exact⟨g,acc++[m3],j3,n3,F3,by have:=HG.out;omega,h4,T4,k4,t4,by have:=hb3.out;unfold Hid;simp;omega,HP3⟩
       case measure =>
        have e1:=hb3.out
        have e2:=HPI.out
        have e3:=HM4.out
        omega
 ·rw[wantR_no e1] at hP
  cases hP
  have C1:=want_no h0 [123] e1
  clear e1
  go_enter Tryz.func161,Tryz.ntmps161
  go_wp2_with fail
  refine C1.mono ?_
  rintro e w1 ⟨rfl,f1⟩
  exact⟨rfl,rfl,f1.sub (by simp)⟩
set_option maxHeartbeats 4000000 in
theorem c_prog {ts:List Tok} {B pb:Nat} (hT:Toks ts) {f i:Nat} {ns:List PN} {w:World} {F:List Nat} {r:Except Nat (List Nat×Nat×List PN)} (H:Hyp ts B pb f) (h0:PS ts B pb F i ns w) (T0:Tabs w) (hn:ns.length≤2*i+1) (hP:P ts (f+1) .prog i ns=some r) : Ctr ts B pb F w r .prog:=by
 obtain⟨i3,hi3,hz,hz1,hby⟩:=info_parts info3
 have hi:=h0.ti
 have HTL:Hid (ts.length≤200001):=h0.tl
 have HBW:Hid (B≤w.heap.size):=by have:=h0.fb pb h0.pf;unfold Hid;omega
 simp only[P] at hP
 simp only[Ctr,ptr]
 have HP:Hid (P ts f (.progL []) i ns=some r):=hP
 clear hP
 have t1:=Tr.refl F w
 have h1:=h0
 have T1:=T0
 go_enter Tryz.func77,Tryz.ntmps77
 go_wp2
 go_loopw [3] (fun kv wr=>∃ g acc i' ns' F',g≤f∧PS ts B pb F' i' ns' wr∧Tabs wr∧KR B w F' wr kv acc∧Tr F w F' wr∧Hid (ns'.length≤2*i' + 1∧i≤i'∧acc.length≤i')∧Hid (P ts g (.progL acc) i' ns' = some r)) (fun _ wr=>ts.length-posOf pb wr)
 case atStart=>exact⟨f,[],i,ns,F,Nat.le_refl _,h1,T1,KR.nil _ _ _ _,t1,by unfold Hid;simp;omega,HP⟩
 case round =>
  obtain⟨g,acc,p,ms,F1,hg,hps,hTb,hkr,htr,hbd,hPP⟩:=hrel
  clear h1 T1 t1 HP
  have HG:Hid (g≤f):=hg
  have hpi:=hps.ti
  have HPI:Hid (p<ts.length∧posOf pb wr=p):=⟨hpi,hps.pos⟩
  clear hg
  obtain⟨ka,kc,hkv,_⟩:=own_slice hkr.on
  subst hkv
  cases g with
  | zero=>exact absurd hPP.out (by simp[P])
  | succ g =>
    have hP:=hPP.out
    clear hPP
    simp only[P] at hP
    by_cases e:nx ts p = []
    ·rw[if_pos e] at hP
     cases hP
     have C2:=next_any hps
     rw[e] at C2
     clear e
     go_wp2_with fail
     refine C2.mono ?_
     rintro e w2 ⟨rfl,f2⟩
     have h2:=hps.fr f2 (by simp)
     have k2:=hkr.tr (Tr.of0 f2)
     have CL:=lay_any h2 (ON.kv k2.on) 1 [] 0 (by have:=hbd.out;have:=HTL.out;have:=HPI.out;omega)
     clear C2
     go_wp2_with fail
     refine CL.mono ?_
     rintro e wz ⟨rfl,Fz,hz',fz,sz⟩
     have tz:Tr F w Fz wz:=lay_tr (htr.trans (Tr.of0 f2)) fz sz (fun k hk=>k2.lo k (by simpa using hk))
     go_wp2
     go_ret
     exact⟨rfl,Fz,hz',tz⟩
    ·rw[if_neg e] at hP
     have C2:=next_any hps
     have ne:(nx ts p == [])=false:=by simpa using e
     have ne2:(nx ts p).isEmpty=false:=by simpa using e
     generalize nx ts p=X at *
     go_wp2_with fail
     refine C2.mono ?_
     rintro e w2 ⟨rfl,f2⟩
     have h2:=hps.fr f2 (by simp)
     have T2:=hTb.fr f2 (by simp)
     have k2:=hkr.tr (Tr.of0 f2)
     have t2:=htr.trans (Tr.of0 f2)
     obtain⟨x0,x1,x2,bd,bs,bf,hbk,hmd,_,_⟩:=h2.maps
     obtain⟨_,_,_,c3,_,_,_⟩:=pt_cells hbk
     clear C2 hbk
     rcases bindR_some hP with ⟨er,hr,he⟩ | ⟨v3,j3,n3,hr,hP3⟩
     ·subst he
      have C3:=H g .decl _ _ w2 _ _ (by have:=HG.out;omega) h2 T2 trivial (by have:=hbd.out;omega) hr bd hmd
      simp only[ptr] at C3
      go_wp2_with fail
      refine C3.mono ?_
      rintro e w3 ⟨rfl,f3⟩
      exact⟨rfl,rfl,t2.ends f3⟩
     ·obtain⟨oa,ob,oc,od,oe⟩:=run_ok hT (nt:=.decl) (ns:=ms) h2.ti trivial hr
      simp only[consN,slack] at oa od
      obtain⟨m3,rfl,hm3⟩:=oe rfl
      have C3:=H g .decl _ _ w2 _ _ (by have:=HG.out;omega) h2 T2 trivial (by have:=hbd.out;omega) hr bd hmd
      simp only[ptr] at C3
      have HP3:Hid (P ts g (.progL (acc++[m3])) j3 n3=some r):=hP3
      have hb3:Hid (n3.length≤2*j3+1∧i<j3∧acc.length+1≤j3∧p<j3∧j3<ts.length):=by have:=hbd.out;unfold Hid;omega
      clear hP hr oa ob oc od oe hP3
      go_wp2_with fail
      refine C3.mono ?_
      rintro e w3 ⟨he,F3,h3,s3⟩
      obtain rfl:e = .returned (.int .i64 (m3:Nat)):=he
      have k3:=k2.tr s3
      have t3:=t2.trans s3
      have T3:=h2.tabs T2 s3.f
      have HB3:Hid (B≤w3.heap.size):=by have:=HBW.out;have:=t3.f.size;unfold Hid;omega
      clear C3
      go_wp2_with (at_builtin;refine wpList_append_own_at _ rfl _ _ 26 rfl B 3 i3 (.int .i64 0) 1 8 under35 hi3 hz hz1 hby rfl (by decide) (.slice ka acc.length kc) acc.length (acc.map (fun k=>Value.int .i64 (k:Nat))) rfl (k3.on.alloc _) ⟨w3.heap.size,0,none⟩ 1 1 [.int .i64 (m3:Nat)] rfl rfl (one_new w3 _) (by simp[Value.oneCell']) (by have:=hb3.out;have:=HTL.out;unfold maxLen;omega) (by have:=hb3.out;have:=HTL.out;omega) (by have:=HB3.out;simp;omega) ?_)
      intro v4 w4 hown4 hgrow4 hnil4 hloc4
      have f4:Fr (Value.slice ka acc.length kc).ownBlock.toList w3 w4:=((Fr.refl _ _).alloc _).trans ((Fr.ofGrown hgrow4).sub (fun k hk=>.inl hk))
      have hni:∀ k∈(Value.slice ka acc.length kc).ownBlock.toList,k∉F3:=fun k hk=>k3.ni k (by simpa using hk)
      have h4:=h3.fr f4 hni
      have T4:Tabs w4:=T3.fr f4 (fun k hk=>by have:=(k3.on.lt k (by simpa using hk)).1;have:=h3.lo;omega)
      have k4:=k3.snoc t3.f.size (fun k hk=>(h3.fb k hk).2) hown4 (by simpa using hloc4)
      have t4:Tr F w F3 w4:=row_tr t3 f4 (fun k hk=>k3.lo k (by simpa using hk))
      clear hgrow4 hnil4 hloc4 f4 hni h3 T3 k3 t3 k2 t2 h2 T2 hkr hps hTb htr hown4 c3 hmd
      have HM4:Hid (posOf pb w4=j3):=h4.pos
      go_wp2
      go_roundw
      case rel=>exact⟨g,acc++[m3],j3,n3,F3,by have:=HG.out;omega,h4,T4,k4,t4,by have:=hb3.out;unfold Hid;simp;omega,HP3⟩
      case measure =>
       have e1:=hb3.out
       have e2:=HPI.out
       have e3:=HM4.out
       omega
set_option maxHeartbeats 4000000 in
theorem c_back {ts:List Tok} {B pb:Nat} (hT:Toks ts) {f i:Nat} {ns:List PN} {w:World} {F:List Nat} {r:Except Nat (List Nat×Nat×List PN)} (H:Hyp ts B pb f) (h0:PS ts B pb F i ns w) (T0:Tabs w) (hn:ns.length≤2*i+1) (hP:P ts (f+1) .back i ns=some r) : Ctr ts B pb F w r .back:=by
 have hi:=h0.ti
 have HTL:Hid (ts.length≤200001):=h0.tl
 simp only[P] at hP
 simp only[Ctr,ptr]
 obtain⟨x0,x1,x2,bd,bs,bf,hbk,_,_,hmf⟩:=h0.maps
 obtain⟨_,_,_,_,_,c5,_⟩:=pt_cells hbk
 clear hbk
 rcases bindR_some hP with ⟨er,hr,he⟩ | ⟨v1,j1,n1,hr,hP1⟩
 ·subst he
  have C1:=H f .first _ _ w _ _ (Nat.le_refl _) h0 T0 trivial hn hr bf hmf
  simp only[ptr] at C1
  go_enter Tryz.func223,Tryz.ntmps223
  go_wp2_with fail
  refine C1.mono ?_
  rintro e w1 ⟨rfl,f1⟩
  exact⟨rfl,rfl,f1⟩
 ·obtain⟨oa,ob,oc,od,oe⟩:=run_ok hT (nt:=.first) (ns:=ns) h0.ti trivial hr
  simp only[consN,slack] at oa od
  obtain⟨m1,rfl,hm1⟩:=oe rfl
  have C1:=H f .first _ _ w _ _ (Nat.le_refl _) h0 T0 trivial hn hr bf hmf
  simp only[ptr] at C1
  have HP:Hid (P ts f (.backL m1) j1 n1=some r):=hP1
  have hb1:Hid (n1.length≤2*j1+1∧i<j1∧m1<n1.length):=by unfold Hid;omega
  clear hP hr oa ob oc od oe hP1 hn hm1
  go_enter Tryz.func223,Tryz.ntmps223
  go_wp2_with fail
  refine C1.mono ?_
  rintro e w1 ⟨he,F1,h1,t1⟩
  obtain rfl:e = .returned (.int .i64 (m1:Nat)):=he
  have T1:=h0.tabs T0 t1.f
  clear C1 c5 hmf
  go_wp2
  go_loopw [3] (fun nv wr=>∃ g n i' ns' F',g≤f∧nv = .int .i64 (n:Nat)∧PS ts B pb F' i' ns' wr∧Tabs wr∧Tr F w F' wr∧Hid (ns'.length≤2*i' + 1∧i<i'∧n<ns'.length)∧Hid (P ts g (.backL n) i' ns' = some r)) (fun _ wr=>ts.length-posOf pb wr)
  case atStart=>exact⟨f,m1,j1,n1,F1,Nat.le_refl _,rfl,h1,T1,t1,hb1,HP⟩
  case round =>
   obtain⟨g,n,p,ms,F2,hg,rfl,hps,hTb,htr,hbd,hPP⟩:=hrel
   clear h1 T1 t1 HP hb1
   have HG:Hid (g≤f):=hg
   have hpi:=hps.ti
   have HPI:Hid (p<ts.length∧posOf pb wr=p):=⟨hpi,hps.pos⟩
   clear hg
   cases g with
   | zero=>exact absurd hPP.out (by simp[P])
   | succ g =>
     have hP:=hPP.out
     clear hPP
     simp only[P] at hP
     have C2:=next_any hps
     by_cases e1:nx ts p = [46]
     ·rw[if_pos e1] at hP
      have HNE:Hid (nx ts p≠[]):=by unfold Hid;rw[e1];decide
      rw[e1] at C2
      clear e1
      go_wp2_with fail
      refine C2.mono ?_
      rintro e w2 ⟨rfl,f2⟩
      have h2:=hps.fr f2 (by simp)
      have T2:=hTb.fr f2 (by simp)
      have t2:=htr.trans (Tr.of0 f2)
      clear C2
      rcases bindR_some hP with ⟨er,hr,he⟩ | ⟨v3,j3,n3,hr,hP3⟩
      ·subst he
       have C3:=H g (.field n) _ _ w2 _ _ (by have:=HG.out;omega) h2 T2 HNE.out (by have:=hbd.out;omega) hr
       simp only[Ctr,ptr] at C3
       go_wp2_with fail
       refine C3.mono ?_
       rintro e w3 ⟨rfl,f3⟩
       exact⟨rfl,rfl,t2.ends f3⟩
      ·obtain⟨oa,ob,oc,od,oe⟩:=run_ok hT (nt:=.field n) (ns:=ms) h2.ti HNE.out hr
       simp only[consN,slack] at oa od
       obtain⟨m3,rfl,hm3⟩:=oe rfl
       have C3:=H g (.field n) _ _ w2 _ _ (by have:=HG.out;omega) h2 T2 HNE.out (by have:=hbd.out;omega) hr
       simp only[Ctr,ptr] at C3
       have HP3:Hid (P ts g (.backL m3) j3 n3=some r):=hP3
       have hb3:Hid (n3.length≤2*j3+1∧i<j3∧m3<n3.length∧p<j3∧j3<ts.length):=by have:=hbd.out;unfold Hid;omega
       clear hP hr oa ob oc od oe hP3 hm3
       go_wp2_with fail
       refine C3.mono ?_
       rintro e w3 ⟨he,F3,h3,s3⟩
       obtain rfl:e = .returned (.int .i64 (m3:Nat)):=he
       have t3:=t2.trans s3
       have T3:=h2.tabs T2 s3.f
       have HM3:Hid (posOf pb w3=j3):=h3.pos
       clear C3 h2 T2 t2 s3 f2
       go_wp2
       go_roundw
       case rel=>exact⟨g,m3,j3,n3,F3,by have:=HG.out;omega,rfl,h3,T3,t3,by have:=hb3.out;unfold Hid;omega,HP3⟩
       case measure =>
        have e1:=hb3.out
        have e2:=HPI.out
        have e3:=HM3.out
        omega
     ·rw[if_neg e1] at hP
      by_cases e2:nx ts p = [91]
      ·rw[if_pos e2] at hP
       have HNE:Hid (nx ts p≠[]):=by unfold Hid;rw[e2];decide
       rw[e2] at C2
       clear e1 e2
       go_wp2_with fail
       refine C2.mono ?_
       rintro e w2 ⟨rfl,f2⟩
       have h2:=hps.fr f2 (by simp)
       have T2:=hTb.fr f2 (by simp)
       have t2:=htr.trans (Tr.of0 f2)
       clear C2
       rcases bindR_some hP with ⟨er,hr,he⟩ | ⟨v3,j3,n3,hr,hP3⟩
       ·subst he
        have C3:=H g (.elem n) _ _ w2 _ _ (by have:=HG.out;omega) h2 T2 HNE.out (by have:=hbd.out;omega) hr
        simp only[Ctr,ptr] at C3
        go_wp2_with fail
        refine C3.mono ?_
        rintro e w3 ⟨rfl,f3⟩
        exact⟨rfl,rfl,t2.ends f3⟩
       ·obtain⟨oa,ob,oc,od,oe⟩:=run_ok hT (nt:=.elem n) (ns:=ms) h2.ti HNE.out hr
        simp only[consN,slack] at oa od
        obtain⟨m3,rfl,hm3⟩:=oe rfl
        have C3:=H g (.elem n) _ _ w2 _ _ (by have:=HG.out;omega) h2 T2 HNE.out (by have:=hbd.out;omega) hr
        simp only[Ctr,ptr] at C3
        have HP3:Hid (P ts g (.backL m3) j3 n3=some r):=hP3
        have hb3:Hid (n3.length≤2*j3+1∧i<j3∧m3<n3.length∧p<j3∧j3<ts.length):=by have:=hbd.out;unfold Hid;omega
        clear hP hr oa ob oc od oe hP3 hm3
        go_wp2_with fail
        refine C3.mono ?_
        rintro e w3 ⟨he,F3,h3,s3⟩
        obtain rfl:e = .returned (.int .i64 (m3:Nat)):=he
        have t3:=t2.trans s3
        have T3:=h2.tabs T2 s3.f
        have HM3:Hid (posOf pb w3=j3):=h3.pos
        clear C3 h2 T2 t2 s3 f2
        go_wp2
        go_roundw
        case rel=>exact⟨g,m3,j3,n3,F3,by have:=HG.out;omega,rfl,h3,T3,t3,by have:=hb3.out;unfold Hid;omega,HP3⟩
        case measure =>
         have e1:=hb3.out
         have e2:=HPI.out
         have e3:=HM3.out
         omega
      ·rw[if_neg e2] at hP
       cases hP
       have b1:(nx ts p == [46])=false:=by simpa using e1
       have b2:(nx ts p == [91])=false:=by simpa using e2
       clear e1 e2
       generalize nx ts p=X at *
       go_wp2_with fail
       refine C2.mono ?_
       rintro e w2 ⟨rfl,f2⟩
       have h2:=hps.fr f2 (by simp)
       have t2:=htr.trans (Tr.of0 f2)
       clear C2
       go_wp2
       go_ret
       exact⟨rfl,F2,h2,t2⟩
set_option maxHeartbeats 4000000 in
theorem c_chain {ts:List Tok} {B pb:Nat} (hT:Toks ts) {f i line:Nat} {ns:List PN} {w:World} {F:List Nat} {r:Except Nat (List Nat×Nat×List PN)} (H:Hyp ts B pb f) (h0:PS ts B pb F i ns w) (T0:Tabs w) (hp:preN ts i ns (.chain line)) (hn:ns.length≤2*i+1) (hP:P ts (f+1) (.chain line) i ns=some r) : Ctr ts B pb F w r (.chain line):=by
 have hi:=h0.ti
 have hl:0<line∧line≤7:=hp
 have HTL:Hid (ts.length≤200001):=h0.tl
 simp only[P] at hP
 simp only[Ctr,ptr]
 by_cases e7:line=7
 ·subst e7
  rw[if_pos rfl] at hP
  have C1:=H f .signed _ _ w _ _ (Nat.le_refl _) h0 T0 trivial hn hP
  simp only[Ctr,ptr] at C1
  rcases r with er | ⟨v1,j1,n1⟩
  ·go_enter Tryz.func185,Tryz.ntmps185
   go_wp2_with fail
   refine C1.mono ?_
   rintro e w1 ⟨rfl,f1⟩
   exact⟨rfl,rfl,f1⟩
  ·go_enter Tryz.func185,Tryz.ntmps185
   go_wp2_with fail
   refine C1.mono ?_
   rintro e w1 ⟨rfl,F1,h1,t1⟩
   go_wp2
   go_ret
   exact⟨rfl,F1,h1,t1⟩
 ·rw[if_neg e7] at hP
  have HL:Hid (0<line∧line≤6):=by unfold Hid;omega
  have hlI:(line:Int)≤6:=by omega
  have b7:((line:Int) == 7)=false:=beq_int_false (by omega)
  have hpc:preN ts i ns (.chain (line+1)):=by show 0<line+1∧line+1≤7;omega
  have ec:((line+1:Nat) : Int)=(line:Int)+1:=by omega
  clear hl hp e7
  rcases bindR_some hP with ⟨er,hr,he⟩ | ⟨v1,j1,n1,hr,hP1⟩
  ·subst he
   have C1:=H f (.chain (line+1)) _ _ w _ _ (Nat.le_refl _) h0 T0 hpc hn hr
   simp only[Ctr,ptr] at C1
   rw[ec] at C1
   clear ec
   go_enter Tryz.func185,Tryz.ntmps185
   go_wp2_with fail
   refine C1.mono ?_
   rintro e w1 ⟨rfl,f1⟩
   exact⟨rfl,rfl,f1⟩
  ·obtain⟨oa,ob,oc,od,oe⟩:=run_ok hT (nt:=.chain (line+1)) (ns:=ns) h0.ti hpc hr
   simp only[consN,slack] at oa od
   obtain⟨m1,rfl,hm1⟩:=oe rfl
   have C1:=H f (.chain (line+1)) _ _ w _ _ (Nat.le_refl _) h0 T0 hpc hn hr
   simp only[Ctr,ptr] at C1
   rw[ec] at C1
   have HEC:Hid (((line+1:Nat) : Int)=(line:Int)+1):=ec
   have HP:Hid (P ts f (.chainL line m1) j1 n1=some r):=hP1
   have hb1:Hid (n1.length≤2*j1+1∧i<j1∧m1<n1.length):=by unfold Hid;omega
   clear hP hr oa ob oc od oe hP1 hn hm1 ec
   go_enter Tryz.func185,Tryz.ntmps185
   go_wp2_with fail
   refine C1.mono ?_
   rintro e w1 ⟨he,F1,h1,t1⟩
   obtain rfl:e = .returned (.int .i64 (m1:Nat)):=he
   have T1:=h0.tabs T0 t1.f
   clear C1
   go_wp2
   go_loopw [5] (fun nv wr=>∃ g n i' ns' F',g≤f∧nv = .int .i64 (n:Nat)∧PS ts B pb F' i' ns' wr∧Tabs wr∧Tr F w F' wr∧Hid (ns'.length≤2*i' + 1∧i<i'∧n<ns'.length)∧Hid (P ts g (.chainL line n) i' ns' = some r)) (fun _ wr=>ts.length-posOf pb wr)
   case atStart=>exact⟨f,m1,j1,n1,F1,Nat.le_refl _,rfl,h1,T1,t1,hb1,HP⟩
   case round =>
    obtain⟨g,n,p,ms,F2,hg,rfl,hps,hTb,htr,hbd,hPP⟩:=hrel
    clear h1 T1 t1 HP hb1
    have HG:Hid (g≤f):=hg
    have hpi:=hps.ti
    have HPI:Hid (p<ts.length∧posOf pb wr=p):=⟨hpi,hps.pos⟩
    clear hg
    cases g with
    | zero=>exact absurd hPP.out (by simp[P])
    | succ g =>
      have hP:=hPP.out
      clear hPP
      simp only[P] at hP
      have C2:=next_any hps
      by_cases e1:lineL (nx ts p)=line
      ·rw[if_pos e1] at hP
       have HNE:Hid (preN ts p ms (.joined n (line+1))):=⟨fun e=>by rw[e,lineL_nil] at e1;have:=HL.out;omega,by omega,by have:=HL.out;omega⟩
       have CO:=fun w=>lineOf_any (nx ts p) w
       rw[e1] at CO
       generalize nx ts p=X at C2 CO
       clear e1
       go_wp2_with fail
       refine C2.mono ?_
       rintro e w2 ⟨rfl,f2⟩
       have h2:=hps.fr f2 (by simp)
       have T2:=hTb.fr f2 (by simp)
       have t2:=htr.trans (Tr.of0 f2)
       clear C2
       go_wp2_with fail
       refine (CO w2).mono ?_
       rintro e w2 ⟨rfl,rfl⟩
       clear CO
       rcases bindR_some hP with ⟨er,hr,he⟩ | ⟨v3,j3,n3,hr,hP3⟩
       ·subst he
        have C3:=H g (.joined n (line+1)) _ _ w2 _ _ (by have:=HG.out;omega) h2 T2 HNE.out (by have:=hbd.out;omega) hr
        simp only[Ctr,ptr] at C3
        rw[HEC.out] at C3
        go_wp2_with fail
        refine C3.mono ?_
        rintro e w3 ⟨rfl,f3⟩
        exact⟨rfl,rfl,t2.ends f3⟩
       ·obtain⟨oa,ob,oc,od,oe⟩:=run_ok hT (nt:=.joined n (line+1)) (ns:=ms) h2.ti HNE.out hr
        simp only[consN,slack] at oa od
        obtain⟨m3,rfl,hm3⟩:=oe rfl
        have C3:=H g (.joined n (line+1)) _ _ w2 _ _ (by have:=HG.out;omega) h2 T2 HNE.out (by have:=hbd.out;omega) hr
        simp only[Ctr,ptr] at C3
        rw[HEC.out] at C3
        have HP3:Hid (P ts g (.chainL line m3) j3 n3=some r):=hP3
        have hb3:Hid (n3.length≤2*j3+1∧i<j3∧m3<n3.length∧p<j3∧j3<ts.length):=by have:=hbd.out;unfold Hid;omega
        clear hP hr oa ob oc od oe hP3 hm3
        go_wp2_with fail
        refine C3.mono ?_
        rintro e w3 ⟨he,F3,h3,s3⟩
        obtain rfl:e = .returned (.int .i64 (m3:Nat)):=he
        have t3:=t2.trans s3
        have T3:=h2.tabs T2 s3.f
        have HM3:Hid (posOf pb w3=j3):=h3.pos
        clear C3 h2 T2 t2 s3 f2
        go_wp2
        go_roundw
        case rel=>exact⟨g,m3,j3,n3,F3,by have:=HG.out;omega,rfl,h3,T3,t3,by have:=hb3.out;unfold Hid;omega,HP3⟩
        case measure =>
         have e1:=hb3.out
         have e2:=HPI.out
         have e3:=HM3.out
         omega
      ·rw[if_neg e1] at hP
       cases hP
       have CO:=fun w=>lineOf_any (nx ts p) w
       have b1:((lineL (nx ts p) : Int) == (line:Int))=false:=beq_int_false (by omega)
       have b2:(lineL (nx ts p) == line)=false:=by simpa using e1
       generalize lineL (nx ts p)=Y at *
       generalize nx ts p=X at *
       clear e1
       go_wp2_with fail
       refine C2.mono ?_
       rintro e w2 ⟨rfl,f2⟩
       have h2:=hps.fr f2 (by simp)
       have t2:=htr.trans (Tr.of0 f2)
       clear C2
       go_wp2_with fail
       refine (CO w2).mono ?_
       rintro e w2 ⟨rfl,rfl⟩
       go_wp2
       go_ret
       exact⟨rfl,F2,h2,t2⟩
set_option maxHeartbeats 2000000 in
theorem c_expr {ts:List Tok} {B pb:Nat} (hT:Toks ts) {f i:Nat} {ns:List PN} {w:World} {F:List Nat} {r:Except Nat (List Nat×Nat×List PN)} (H:Hyp ts B pb f) (h0:PS ts B pb F i ns w) (T0:Tabs w) (hp:preN ts i ns (.expr)) (hn:ns.length≤2*i+1) (hP:P ts (f+1) (.expr) i ns=some r) : Ctr ts B pb F w r (.expr):=by
 have hi:=h0.ti
 have HTL:Hid (ts.length≤200001):=h0.tl
 simp only[P] at hP
 have HP:Hid (_=some r):=hP
 clear hP
 simp only[Ctr,ptr]
 have t0:=Tr.refl F w
 have HF0:Hid (∀ k∈F,k<w.heap.size):=fun k hk=>(h0.fb k hk).2
 have HN:Hid (ns.length≤2*i+1):=hn
 clear hn
 rcases bindR_some HP.out with ⟨er,hr,he⟩ | ⟨v1,j1,n1,hr,hP⟩
 ·subst he
  have C1:=H f (.chain 2) _ _ w _ _ (Nat.le_refl _) h0 T0 (by simp[preN]) (by have:=HN.out;omega) hr
  simp only[Ctr,ptr] at C1
  go_enter Tryz.func162,Tryz.ntmps162
  go_wp2_with fail
  refine C1.mono ?_
  rintro e w1 ⟨rfl,f1⟩
  exact⟨rfl,rfl,t0.ends f1⟩
 obtain⟨o1a,o1b,o1c,o1d,o1e⟩:=run_ok hT (nt:=.chain 2) (ns:=ns) h0.ti (by simp[preN]) hr
 simp only[consN,slack] at o1a o1d
 obtain⟨m1,rfl,hm1⟩:=o1e rfl
 have C1:=H f (.chain 2) _ _ w _ _ (Nat.le_refl _) h0 T0 (by simp[preN]) (by have:=HN.out;omega) hr
 simp only[Ctr,ptr] at C1
 have HP:Hid (_=some r):=hP
 have B1:Hid (n1.length+0≤2*j1+1∧i<j1):=by have:=HN.out;unfold Hid;omega
 have q1:=o1b
 clear hP hr o1a o1b o1c o1d o1e
 go_enter Tryz.func162,Tryz.ntmps162
 go_wp2_with fail
 refine C1.mono ?_
 rintro e w1 ⟨he,F1,h1,s1⟩
 obtain rfl:e = .returned (.int .i64 (m1:Nat)):=he
 clear C1
 have f1:=s1.f
 have t1:=t0.trans s1
 have T1:=h0.tabs T0 f1
 have C2:=next_any h1
 have CO:=fun w=>lineOf_any (nx ts (j1)) w
 have hP:=HP.out
 clear HP
 by_cases e2:lineL (nx ts (j1))=1
 ·rw[if_pos e2] at hP
  rw[e2] at CO
  have HNE:Hid (preN ts (j1) n1 (.joined m1 2)):=⟨fun e=>by rw[e,lineL_nil] at e2;omega,by decide,by decide⟩
  have HP:Hid (P ts f (.joined m1 2) (j1) n1=some r):=hP
  clear hP e2
  generalize nx ts (j1)=X at C2 CO
  go_wp2_with fail
  refine C2.mono ?_
  rintro e w2 ⟨rfl,f2⟩
  clear C2
  have h2:=h1.fr f2 (by simp)
  have t2:=t1.trans (Tr.of0 f2)
  have T2:=T1.fr f2 (by simp)
  go_wp2_with fail
  refine (CO w2).mono ?_
  rintro e w2 ⟨rfl,rfl⟩
  rcases r with er | ⟨v3,j3,n3⟩
  ·have C3:=H f (.joined m1 2) _ _ w2 _ _ (Nat.le_refl _) h2 T2 HNE.out (by have:=B1.out;omega) HP.out
   simp only[Ctr,ptr] at C3
   go_wp2_with fail
   refine C3.mono ?_
   rintro e w3 ⟨rfl,f3⟩
   exact⟨rfl,rfl,t2.ends f3⟩
  ·obtain⟨_,_,_,_,oe⟩:=run_ok hT (nt:=.joined m1 2) (ns:=n1) h2.ti HNE.out HP.out
   obtain⟨m3,rfl,hm3⟩:=oe rfl
   have C3:=H f (.joined m1 2) _ _ w2 _ _ (Nat.le_refl _) h2 T2 HNE.out (by have:=B1.out;omega) HP.out
   simp only[Ctr,ptr] at C3
   go_wp2_with fail
   refine C3.mono ?_
   rintro e w3 ⟨he,F3,h3,s3⟩
   obtain rfl:e = .returned (.int .i64 (m3:Nat)):=he
   go_wp2
   go_ret
   exact⟨rfl,F3,h3,t2.trans s3⟩
 ·rw[if_neg e2] at hP
  have b1:((lineL (nx ts (j1)) : Int) == 1)=false:=beq_int_false (by omega)
  have b2:(lineL (nx ts (j1)) == 1)=false:=by simpa using e2
  cases hP
  clear e2
  generalize lineL (nx ts (j1))=Y at *
  generalize nx ts (j1)=X at *
  go_wp2_with fail
  refine C2.mono ?_
  rintro e w2 ⟨rfl,f2⟩
  clear C2
  have h2:=h1.fr f2 (by simp)
  have t2:=t1.trans (Tr.of0 f2)
  have T2:=T1.fr f2 (by simp)
  go_wp2_with fail
  refine (CO w2).mono ?_
  rintro e w2 ⟨rfl,rfl⟩
  go_wp2
  go_ret
  exact⟨rfl,_,h2,t2⟩
theorem PS.node {ts:List Tok} {B pb:Nat} {F:List Nat} {i:Nat} {ns:List PN} {w:World} (h:PS ts B pb F i ns w) {m:Nat} (hm:m<ns.length) : ∃ x0 x1 nb nc x3 x4 x5,w.heap[pb]? = some (.cells #[x0,x1,.slice (some ⟨nb,0,none⟩) ns.length nc,x3,x4,x5] 135 (0,0))∧ns.length≤nc∧w.cell? ⟨nb,m*4,none⟩=some (.int .i64 (kdN ns m:Nat))∧w.cell? ⟨nb,m*4+3,none⟩=some (.int .i64 (plN ns m:Nat)):=by
 obtain⟨tg,tc,nv,bd,bs,bf,L,h1,h2,h3,h4,h5,h6,h7,h8,h9,h10,h11,h12,h13,h14⟩:=h.ex
 have hl:L.length=ns.length:=by rw[← h11];simp
 have hx:L[m]? = some (L[m]'(by omega)):=List.getElem?_eq_getElem _
 generalize L[m]'(by omega)=y at hx
 have hn:ns[m]? = some y.x:=by rw[← h11,List.getElem?_map,hx];rfl
 rcases h12.2 with ⟨_,e0⟩ | ⟨g,cap,cur,rfl,hb,hg,hc,hmx,hs,ht⟩
 ·omega
 ·have cell:∀ j u,j<L.length*4→(flatM L)[j]? = some u→w.cell? ⟨g,j,none⟩=some u:=fun j u hj hu=>by
   have:(cur.toList.take (L.length*4))[j]? = (flatM L)[j]? := by rw[ht]
   rw[List.getElem?_take_of_lt hj,hu] at this
   simp only[World.cell?,hg]
   simpa using this
  refine⟨_,_,g,cap,_,_,_,by rw[hl] at h1;exact h1,by omega,?_,?_⟩
  ·have:=cell (m*4+0) _ (by omega) (flatM_get hx 0 (by decide))
   rw[show kdN ns m=y.x.kind by unfold kdN;rw[hn]]
   exact this
  ·have:=cell (m*4+3) _ (by omega) (flatM_get hx 3 (by decide))
   rw[show plN ns m=y.x.pl by unfold plN;rw[hn]]
   exact this
theorem place_not {k:Nat} (h:placeK k=true) : k≠22:=by
 intro e
 subst e
 cases h
set_option maxHeartbeats 2000000 in
theorem c_setOrDo {ts:List Tok} {B pb:Nat} (hT:Toks ts) {f i:Nat} {ns:List PN} {w:World} {F:List Nat} {r:Except Nat (List Nat×Nat×List PN)} (H:Hyp ts B pb f) (h0:PS ts B pb F i ns w) (T0:Tabs w) (hp:preN ts i ns (.setOrDo)) (hn:ns.length≤2*i+1) (hP:P ts (f+1) (.setOrDo) i ns=some r) : Ctr ts B pb F w r (.setOrDo):=by
 have hi:=h0.ti
 have HTL:Hid (ts.length≤200001):=h0.tl
 simp only[P] at hP
 have HP:Hid (_=some r):=hP
 clear hP
 simp only[Ctr,ptr]
 have t0:=Tr.refl F w
 have HF0:Hid (∀ k∈F,k<w.heap.size):=fun k hk=>(h0.fb k hk).2
 have HN:Hid (ns.length≤2*i+1):=hn
 clear hn
 rcases bindR_some HP.out with ⟨er,hr,he⟩ | ⟨v1,j1,n1,hr,hP⟩
 ·subst he
  have C1:=H f (.back) _ _ w _ _ (Nat.le_refl _) h0 T0 trivial (by have:=HN.out;omega) hr
  simp only[Ctr,ptr] at C1
  go_enter Tryz.func205,Tryz.ntmps205
  go_wp2_with fail
  refine C1.mono ?_
  rintro e w1 ⟨rfl,f1⟩
  exact⟨rfl,rfl,t0.ends f1⟩
 obtain⟨o1a,o1b,o1c,o1d,o1e⟩:=run_ok hT (nt:=.back) (ns:=ns) h0.ti trivial hr
 simp only[consN,slack] at o1a o1d
 obtain⟨m1,rfl,hm1⟩:=o1e rfl
 have C1:=H f (.back) _ _ w _ _ (Nat.le_refl _) h0 T0 trivial (by have:=HN.out;omega) hr
 simp only[Ctr,ptr] at C1
 have HP:Hid (_=some r):=hP
 have B1:Hid (n1.length+0≤2*j1+1∧i<j1):=by have:=HN.out;unfold Hid;omega
 have q1:=o1b
 clear hP hr o1a o1b o1c o1d o1e
 go_enter Tryz.func205,Tryz.ntmps205
 go_wp2_with fail
 refine C1.mono ?_
 rintro e w1 ⟨he,F1,h1,s1⟩
 obtain rfl:e = .returned (.int .i64 (m1:Nat)):=he
 clear C1
 have f1:=s1.f
 have t1:=t0.trans s1
 have T1:=h0.tabs T0 f1
 obtain⟨x0,x1,nb,nc,x3,x4,x5,hbk,hnc,c0,c3⟩:=h1.node hm1
 obtain⟨_,_,d2,_,_,_,_⟩:=pt_cells hbk
 clear hbk
 have HKK:Hid (m1<n1.length):=hm1
 have hmI:(m1:Int)<n1.length:=by omega
 have hncI:(n1.length:Int)≤nc:=by omega
 have hcap:(n1.length:Int)≤1000000:=by have:=B1.out;have:=HTL.out;have:=q1;omega
 have CI:=fun w=>isPlace_any (kdN n1 m1) w
 have hP:=HP.out
 clear HP
 simp only[hd,List.getD_cons_zero] at hP
 have CN:=fun w' (f:Fr [] w1 w')=>next_any (h1.fr f (by simp))
 cases hpl:placeK (kdN n1 m1) with
 | true =>
   by_cases e2:nx ts j1 = [61]
   ·rw[if_pos ⟨hpl,e2⟩] at hP
    rw[hpl] at CI
    have HNE:Hid (nx ts j1≠[]):=by unfold Hid;rw[e2];decide
    rw[e2] at CN
    have HP:Hid (P ts f (.setS m1) j1 n1=some r):=hP
    clear hP e2 hpl
    generalize kdN n1 m1=K at *
    go_wp2_with fail
    refine (CI w1).mono ?_
    rintro e w1 ⟨rfl,rfl⟩
    have CN1:=CN w1 (Fr.refl _ _)
    clear CN CI
    go_wp2_with fail
    refine CN1.mono ?_
    rintro e w2 ⟨rfl,f2⟩
    have h2:=h1.fr f2 (by simp)
    have t2:=t1.trans (Tr.of0 f2)
    have T2:=T1.fr f2 (by simp)
    clear CN1 c0 c3 d2
    rcases r with er | ⟨v3,j3,n3⟩
    ·have C3:=H f (.setS m1) _ _ w2 _ _ (Nat.le_refl _) h2 T2 HNE.out (by have:=B1.out;omega) HP.out
     simp only[Ctr,ptr] at C3
     go_wp2_with fail
     refine C3.mono ?_
     rintro e w3 ⟨rfl,f3⟩
     exact⟨rfl,rfl,t2.ends f3⟩
    ·obtain⟨_,_,_,_,oe⟩:=run_ok hT (nt:=.setS m1) (ns:=n1) h2.ti HNE.out HP.out
     obtain⟨m3,rfl,hm3⟩:=oe rfl
     have C3:=H f (.setS m1) _ _ w2 _ _ (Nat.le_refl _) h2 T2 HNE.out (by have:=B1.out;omega) HP.out
     simp only[Ctr,ptr] at C3
     go_wp2_with fail
     refine C3.mono ?_
     rintro e w3 ⟨he,F3,h3,s3⟩
     obtain rfl:e = .returned (.int .i64 (m3:Nat)):=he
     go_wp2
     go_ret
     exact⟨rfl,F3,h3,t2.trans s3⟩
   ·rw[if_neg (fun h=>e2 h.2),if_pos (place_not hpl)] at hP
    have b22:((kdN n1 m1:Int) != 22)=true:=by have:=place_not hpl;simp;omega
    rw[hpl] at CI
    have ne:(nx ts j1 == [61])=false:=by simpa using e2
    cases hP
    clear e2 hpl
    generalize kdN n1 m1=K at *
    generalize nx ts j1=X at *
    go_wp2_with fail
    refine (CI w1).mono ?_
    rintro e w1 ⟨rfl,rfl⟩
    have CN1:=CN w1 (Fr.refl _ _)
    clear CN CI
    go_wp2_with fail
    refine CN1.mono ?_
    rintro e w2 ⟨rfl,f2⟩
    have C3:=refuse_any (h1.fr f2 (by simp))
    clear CN1
    go_wp2_with fail
    refine C3.mono ?_
    rintro e w3 ⟨rfl,f3⟩
    exact⟨rfl,rfl,t1.ends ((f2.trans f3).sub (by simp))⟩
 | false =>
   rw[if_neg (fun h=>by rw[hpl] at h;cases h.1)] at hP
   rw[hpl] at CI
   clear hpl CN
   by_cases e2:kdN n1 m1=22
   ·rw[if_neg (fun h=>h e2)] at hP
    rw[e2] at CI c0
    clear e2
    have HP:Hid (_=some r):=hP
    clear hP
    obtain⟨PL,HPLX⟩ : ∃ PL,Hid (plN n1 m1=PL):=⟨_,rfl⟩
    rw[HPLX.out] at HP c3
    go_wp2_with fail
    refine (CI w1).mono ?_
    rintro e w1 ⟨rfl,rfl⟩
    clear CI c0
    by_cases e3:nx ts (j1) = [59]
    rotate_left
    ·have hP:=HP.out
     rw[wantR_no e3] at hP
     have C3:=want_no h1 [59] e3
     unfold thrown at C3
     cases hP
     go_wp2_with fail
     refine C3.mono ?_
     rintro e w3 ⟨rfl,f3⟩
     exact⟨rfl,rfl,t1.ends (f3.sub (by simp))⟩
    have q3:=hT.more q1 (show nx ts (j1)≠[] by rw[e3];decide)
    have hP:=HP.out
    rw[wantR_yes e3] at hP
    have HP:Hid (_=some r):=hP
    clear hP
    have C3:=want_yes h1 [59] e3 q3
    unfold tokA at C3
    clear e3
    go_wp2_with fail
    refine C3.mono ?_
    rintro e w3 ⟨rfl,h3,f3⟩
    clear C3
    have s3:=Tr.of f3
    have t3:=t1.trans s3
    have T3:=h1.tabs T1 f3
    have h3:PS ts B pb F1 (j1+1) n1 w3:=h3
    have q3:j1+1<ts.length:=q3
    obtain⟨y0,y1,yb,yc,y3,y4,y5,hbk,hyc,_,z3⟩:=h3.node HKK.out
    obtain⟨_,_,z2,_,_,_,_⟩:=pt_cells hbk
    have HPL:Hid (plN n1 m1=PL):=HPLX
    rw[HPL.out] at z3
    have hycI:(n1.length:Int)≤yc:=by omega
    clear hbk d2 c3 hnc hncI
    have hP:=HP.out
    cases hP
    have gb:Fr [] w3 (w3.alloc (.cells #[.int .i64 (m1:Nat)] 3)):=(Fr.refl _ _).alloc _
    have ob:ON (w3.alloc (.cells #[.int .i64 (m1:Nat)] 3)) B (.slice (some ⟨w3.heap.size,0,none⟩) 1 1) [m1]:=ON.built w3 B (by have:=h3.fb pb h3.pf;omega) [m1] (by simp)
    have KV0:=ON.kv ob
    have LO:∀ k∈(Value.slice (some ⟨w3.heap.size,0,none⟩) 1 1).ownBlock.toList,w.heap.size≤k:=fun k hk=>by rw[own_mem hk];exact t3.f.size
    have hb:=h3.fr gb (by simp)
    have tb:=t3.trans (Tr.of0 gb)
    have CL:=lay_any hb KV0 12 [] PL (by have:=B1.out;have:=HTL.out;have:=q3;omega)
    go_wp2_with fail
    refine CL.mono ?_
    rintro e wz ⟨rfl,Fz,hz,fz,sz⟩
    have tz:Tr F w Fz wz:=lay_tr tb fz sz LO
    go_wp2
    go_ret
    exact⟨rfl,Fz,hz,tz⟩
   ·rw[if_pos e2] at hP
    have b22:((kdN n1 m1:Int) != 22)=true:=by simp;omega
    cases hP
    clear e2
    generalize kdN n1 m1=K at *
    go_wp2_with fail
    refine (CI w1).mono ?_
    rintro e w1 ⟨rfl,rfl⟩
    have C3:=refuse_any h1
    clear CI
    go_wp2_with fail
    refine C3.mono ?_
    rintro e w3 ⟨rfl,f3⟩
    exact⟨rfl,rfl,t1.ends (f3.sub (by simp))⟩
def thN (thing:Bool) : NT:=if thing then .expr else .name
theorem thN_pre (ts:List Tok) (i:Nat) (ns:List PN) (thing:Bool) : preN ts i ns (thN thing):=by cases thing <;> trivial
theorem thN_single (thing:Bool) : single (thN thing)=true∧consN (thN thing)=1∧slack (thN thing)=0:=by cases thing <;> decide
theorem listedL_len {ts:List Tok} (hT:Toks ts) (thing:Bool) (c:List UInt8) (hc:c≠[]) : ∀ (g:Nat) (acc:List Nat) (i:Nat) (ns:List PN) (v:List Nat) (j:Nat) (ms:List PN),i<ts.length→P ts g (.listedL thing c acc) i ns=some (.ok (v,j,ms))→v.length≤acc.length+(j-i):=by
 intro g
 induction g with
 | zero=>intro acc i ns v j ms _ h;simp[P] at h
 | succ g ih =>
   intro acc i ns v j ms hi h
   have hj:=run_ok hT (nt:=.listedL thing c acc) hi hc h
   simp only[P] at h
   split at h
   ·rename_i e
    have h1:=hT.more hi (by rw[e];decide)
    rcases bindR_some h with ⟨er,hr,he⟩ | ⟨v1,j1,n1,hr,hP⟩
    ·cases he
    ·have hr' : P ts g (thN thing) (i+1) ns=some (.ok (v1,j1,n1)):=hr
     obtain⟨a1,a2,_⟩:=run_ok hT h1 (thN_pre ts _ ns thing) hr'
     have:=ih _ _ _ _ _ _ a2 hP
     have hk:=run_ok hT (nt:=.listedL thing c (acc++[hd v1])) a2 hc hP
     have h3:=(thN_single thing).2.1
     simp only[consN,List.length_append,List.length_cons,List.length_nil] at this hk
     omega
   ·unfold wantR at h
    split at h
    ·cases h
     omega
    ·cases h
theorem listed_len {ts:List Tok} (hT:Toks ts) (thing:Bool) (c:List UInt8) (hc:c≠[]) {g i:Nat} {ns:List PN} {v:List Nat} {j:Nat} {ms:List PN} (hi:i<ts.length) (h:P ts g (.listed thing c) i ns=some (.ok (v,j,ms))) : v.length≤j:=by
 cases g with
 | zero=>simp[P] at h
 | succ g =>
   simp only[P] at h
   split at h
   ·cases h
    simp
   ·rcases bindR_some h with ⟨er,hr,he⟩ | ⟨v1,j1,n1,hr,hP⟩
    ·cases he
    ·have hr' : P ts g (thN thing) i ns=some (.ok (v1,j1,n1)):=hr
     obtain⟨a1,a2,_⟩:=run_ok hT hi (thN_pre ts _ ns thing) hr'
     have:=listedL_len hT thing c hc _ _ _ _ _ _ _ a2 hP
     have hk:=run_ok hT (nt:=.listedL thing c [hd v1]) a2 hc hP
     have h3:=(thN_single thing).2.1
     simp only[consN,List.length_cons,List.length_nil] at this hk
     omega
set_option maxHeartbeats 4000000 in
theorem c_listed_false {ts:List Tok} {B pb:Nat} (hT:Toks ts) {f i:Nat} {closing:List UInt8} {ns:List PN} {w:World} {F:List Nat} {r:Except Nat (List Nat×Nat×List PN)} (H:Hyp ts B pb f) (h0:PS ts B pb F i ns w) (T0:Tabs w) (hc:closing≠[]) (hn:ns.length≤2*i+1) (hP:P ts (f+1) (.listed false closing) i ns=some r) : Ctr ts B pb F w r (.listed false closing):=by
 obtain⟨i3,hi3,hz,hz1,hby⟩:=info_parts info3
 have hi:=h0.ti
 have HTL:Hid (ts.length≤200001):=h0.tl
 have HC:Hid (closing≠[]):=hc
 have HBW:Hid (B≤w.heap.size):=by have:=h0.fb pb h0.pf;unfold Hid;omega
 have eg:∀ args w,(callFunc 160 args).run Tryz.prog w = .ok (.enter 160 args) w:=enters_of Tryz.func160 (by kernel_rfl) rfl
 simp only[P,if_true,Bool.false_eq_true,if_false] at hP
 simp only[Ctr,ptr,if_true,Bool.false_eq_true,if_false]
 have C1:=next_any h0
 clear hc
 by_cases e1:nx ts i=closing
 ·rw[if_pos e1] at hP
  cases hP
  have q1:=hT.more hi (show nx ts i≠[] by rw[e1];exact HC.out)
  rw[e1] at C1
  have CW:=fun w' (f:Fr [] w w')=>want_yes (h0.fr f (by simp)) closing e1 q1
  clear e1
  go_enter Tryz.func159,Tryz.ntmps159
  go_wp2_with fail
  refine C1.mono ?_
  rintro e w1 ⟨rfl,f1⟩
  have C2:=CW w1 f1
  clear C1 CW
  go_wp2_with fail
  refine C2.mono ?_
  rintro e w2 ⟨rfl,h2,f2⟩
  go_wp2
  go_ret
  exact⟨_,F,rfl,ON.nil _ _,fun k hk=>by simp[Value.ownBlock] at hk,h2,(Tr.of0 f1).trans (Tr.of f2)⟩
 ·rw[if_neg e1] at hP
  have ne:(nx ts i == closing)=false:=by simpa using e1
  have HP:Hid (_=some r):=hP
  clear e1 hP
  generalize nx ts i=X at *
  go_enter Tryz.func159,Tryz.ntmps159
  go_wp2_with fail
  refine C1.mono ?_
  rintro e w1 ⟨rfl,f1⟩
  have h1:=h0.fr f1 (by simp)
  have T1:=T0.fr f1 (by simp)
  have t1:=(Tr.refl F w).trans (Tr.of0 f1)
  clear C1
  rcases bindR_some HP.out with ⟨er,hr,he⟩ | ⟨v2,j2,n2,hr,hP2⟩
  ·subst he
   have C2:=H f .name _ _ w1 _ _ (Nat.le_refl _) h1 T1 trivial hn hr
   simp only[Ctr,ptr] at C2
   go_wp2_with fail
   refine C2.mono ?_
   rintro e w2 ⟨rfl,f2⟩
   exact⟨rfl,rfl,t1.ends f2⟩
  ·obtain⟨oa,ob,oc,od,oe⟩:=run_ok hT (nt:=.name) (ns:=ns) h1.ti trivial hr
   simp only[consN,slack] at oa od
   obtain⟨m2,rfl,hm2⟩:=oe rfl
   have C2:=H f .name _ _ w1 _ _ (Nat.le_refl _) h1 T1 trivial hn hr
   simp only[Ctr,ptr] at C2
   have HP:Hid (P ts f (.listedL false closing [m2]) j2 n2=some r):=hP2
   have hb2:Hid (n2.length≤2*j2+1∧i<j2∧j2<ts.length):=by unfold Hid;omega
   clear hr oa ob oc od oe hP2 hn hm2
   go_wp2_with fail
   refine C2.mono ?_
   rintro e w2 ⟨he,F2,h2,s2⟩
   obtain rfl:e = .returned (.int .i64 (m2:Nat)):=he
   have T2:=h1.tabs T1 s2.f
   have t2:=t1.trans s2
   have HB2:Hid (B≤w2.heap.size):=by have:=HBW.out;have:=t2.f.size;unfold Hid;omega
   have k2:=KR.nil B w F2 w2
   clear C2 ne
   go_wp2_with (at_builtin;refine wpList_append_own_at _ rfl _ _ 26 rfl B 3 i3 (.int .i64 0) 1 8 under35 hi3 hz hz1 hby rfl (by decide) (.slice none 0 0) 0 (([] : List Nat).map (fun k=>Value.int .i64 (k:Nat))) rfl (k2.on.alloc _) ⟨w2.heap.size,0,none⟩ 1 1 [.int .i64 (m2:Nat)] rfl rfl (one_new w2 _) (by simp[Value.oneCell']) (by unfold maxLen;omega) (by omega) (by have:=HB2.out;simp;omega) ?_)
   intro v3 w3 hown3 hgrow3 hnil3 hloc3
   have f3:Fr [] w2 w3:=((Fr.refl _ _).alloc _).trans ((Fr.ofGrown hgrow3).sub (fun k hk=>by simp[Value.ownBlock] at hk))
   have h3:=h2.fr f3 (by simp)
   have T3:Tabs w3:=T2.fr f3 (by simp)
   have k3:=k2.snoc (m:=m2) t2.f.size (fun k hk=>(h2.fb k hk).2) hown3 (by simpa using hloc3)
   simp only[List.nil_append] at k3
   have t3:Tr F w F2 w3:=t2.trans (Tr.of0 f3)
   clear hgrow3 hnil3 hloc3 f3 h2 T2 k2 t2 hown3 h1 T1 t1 f1 s2
   obtain⟨ya,yc,hy0,_⟩:=own_slice k3.on
   have hy:v3 = .slice ya 1 yc:=hy0
   clear hy0
   subst hy
   go_wp2
   go_loopw [7] (fun kv wr=>∃ g acc i' ns' F',g≤f∧PS ts B pb F' i' ns' wr∧Tabs wr∧KR B w F' wr kv acc∧Tr F w F' wr∧Hid (ns'.length≤2*i' + 1∧i<i'∧acc.length≤i')∧Hid (P ts g (.listedL false closing acc) i' ns' = some r)) (fun _ wr=>ts.length-posOf pb wr)
   case atStart=>exact⟨f,[m2],j2,n2,F2,Nat.le_refl _,h3,T3,k3,t3,by have:=hb2.out;unfold Hid;simp;omega,HP⟩
   case round =>
    obtain⟨g,acc,p,ms,F4,hg,hps,hTb,hkr,htr,hbd,hPP⟩:=hrel
    clear h3 T3 t3 k3 HP hb2
    have HG:Hid (g≤f):=hg
    have hpi:=hps.ti
    have HPI:Hid (p<ts.length∧posOf pb wr=p):=⟨hpi,hps.pos⟩
    clear hg
    obtain⟨ka,kc,hkv,_⟩:=own_slice hkr.on
    subst hkv
    cases g with
    | zero=>exact absurd hPP.out (by simp[P])
    | succ g =>
      have hP:=hPP.out
      clear hPP
      simp only[P,if_true,Bool.false_eq_true,if_false] at hP
      by_cases e:nx ts p = [44]
      ·rw[if_pos e] at hP
       have q5:=hT.more hpi (show nx ts p≠[] by rw[e];decide)
       have C5:=passIf_yes hps [44] e q5
       clear e
       go_wp2_with fail
       refine C5.mono ?_
       rintro e w5 ⟨rfl,h5,f5⟩
       have T5:=hps.tabs hTb f5
       have k5:=hkr.tr (Tr.of f5)
       have t5:=htr.trans (Tr.of f5)
       clear C5
       rcases bindR_some hP with ⟨er,hr,he⟩ | ⟨v6,j6,n6,hr,hP6⟩
       ·subst he
        have C6:=H g .name _ _ w5 _ _ (by have:=HG.out;omega) h5 T5 trivial (by have:=hbd.out;omega) hr
        simp only[Ctr,ptr] at C6
        go_wp2_with fail
        refine C6.mono ?_
        rintro e w6 ⟨rfl,f6⟩
        exact⟨rfl,rfl,t5.ends f6⟩
       ·obtain⟨oa,ob,oc,od,oe⟩:=run_ok hT (nt:=.name) (ns:=ms) h5.ti trivial hr
        simp only[consN,slack] at oa od
        obtain⟨m6,rfl,hm6⟩:=oe rfl
        have C6:=H g .name _ _ w5 _ _ (by have:=HG.out;omega) h5 T5 trivial (by have:=hbd.out;omega) hr
        simp only[Ctr,ptr] at C6
        have HP6:Hid (P ts g (.listedL false closing (acc++[m6])) j6 n6=some r):=hP6
        have hb6:Hid (n6.length≤2*j6+1∧i<j6∧acc.length+1≤j6∧p<j6∧j6<ts.length):=by have:=hbd.out;unfold Hid;omega
        clear hP hr oa ob oc od oe hP6 hm6
        go_wp2_with fail
        refine C6.mono ?_
        rintro e w6 ⟨he,F6,h6,s6⟩
        obtain rfl:e = .returned (.int .i64 (m6:Nat)):=he
        have k6:=k5.tr s6
        have t6:=t5.trans s6
        have T6:=h5.tabs T5 s6.f
        have HB6:Hid (B≤w6.heap.size):=by have:=HBW.out;have:=t6.f.size;unfold Hid;omega
        clear C6
        go_wp2_with (at_builtin;refine wpList_append_own_at _ rfl _ _ 26 rfl B 3 i3 (.int .i64 0) 1 8 under35 hi3 hz hz1 hby rfl (by decide) (.slice ka acc.length kc) acc.length (acc.map (fun k=>Value.int .i64 (k:Nat))) rfl (k6.on.alloc _) ⟨w6.heap.size,0,none⟩ 1 1 [.int .i64 (m6:Nat)] rfl rfl (one_new w6 _) (by simp[Value.oneCell']) (by have:=hb6.out;have:=HTL.out;unfold maxLen;omega) (by have:=hb6.out;have:=HTL.out;omega) (by have:=HB6.out;simp;omega) ?_)
        intro v7 w7 hown7 hgrow7 hnil7 hloc7
        have f7:Fr (Value.slice ka acc.length kc).ownBlock.toList w6 w7:=((Fr.refl _ _).alloc _).trans ((Fr.ofGrown hgrow7).sub (fun k hk=>.inl hk))
        have hni:∀ k∈(Value.slice ka acc.length kc).ownBlock.toList,k∉F6:=fun k hk=>k6.ni k (by simpa using hk)
        have h7:=h6.fr f7 hni
        have T7:Tabs w7:=T6.fr f7 (fun k hk=>by have:=(k6.on.lt k (by simpa using hk)).1;have:=h6.lo;omega)
        have k7:=k6.snoc t6.f.size (fun k hk=>(h6.fb k hk).2) hown7 (by simpa using hloc7)
        have t7:Tr F w F6 w7:=row_tr t6 f7 (fun k hk=>k6.lo k (by simpa using hk))
        clear hgrow7 hnil7 hloc7 f7 hni h6 T6 k6 t6 k5 t5 h5 T5 hkr hps hTb htr hown7
        have HM7:Hid (posOf pb w7=j6):=h7.pos
        go_wp2
        go_roundw
        case rel=>exact⟨g,acc++[m6],j6,n6,F6,by have:=HG.out;omega,h7,T7,k7,t7,by have:=hb6.out;unfold Hid;simp;omega,HP6⟩
        case measure =>
         have e1:=hb6.out
         have e2:=HPI.out
         have e3:=HM7.out
         omega
      ·rw[if_neg e] at hP
       have C5:=passIf_no hps [44] e
       clear e
       by_cases ec:nx ts p=closing
       ·rw[wantR_yes ec] at hP
        cases hP
        have q5:=hT.more hpi (show nx ts p≠[] by rw[ec];exact HC.out)
        have CW:=fun w' (f:Fr [] wr w')=>want_yes (hps.fr f (by simp)) closing ec q5
        clear ec
        go_wp2_with fail
        refine C5.mono ?_
        rintro e w5 ⟨rfl,f5⟩
        have C6:=CW w5 f5
        clear C5 CW
        go_wp2_with fail
        refine C6.mono ?_
        rintro e w6 ⟨rfl,h6,f6⟩
        have k6:=(hkr.tr (Tr.of0 f5)).tr (Tr.of f6)
        have t6:=(htr.trans (Tr.of0 f5)).trans (Tr.of f6)
        go_wp2
        go_ret
        exact⟨_,F4,rfl,k6.on,fun k hk=>⟨k6.ni k hk,k6.lo k hk⟩,h6,t6⟩
       ·rw[wantR_no ec] at hP
        cases hP
        have CW:=fun w' (f:Fr [] wr w')=>want_no (hps.fr f (by simp)) closing ec
        clear ec
        go_wp2_with fail
        refine C5.mono ?_
        rintro e w5 ⟨rfl,f5⟩
        have C6:=CW w5 f5
        clear C5 CW
        go_wp2_with fail
        refine C6.mono ?_
        rintro e w6 ⟨rfl,f6⟩
        exact⟨rfl,rfl,htr.ends ((f5.trans f6).sub (by simp))⟩
set_option maxHeartbeats 4000000 in
theorem c_listed_true {ts:List Tok} {B pb:Nat} (hT:Toks ts) {f i:Nat} {closing:List UInt8} {ns:List PN} {w:World} {F:List Nat} {r:Except Nat (List Nat×Nat×List PN)} (H:Hyp ts B pb f) (h0:PS ts B pb F i ns w) (T0:Tabs w) (hc:closing≠[]) (hn:ns.length≤2*i+1) (hP:P ts (f+1) (.listed true closing) i ns=some r) : Ctr ts B pb F w r (.listed true closing):=by
 obtain⟨i3,hi3,hz,hz1,hby⟩:=info_parts info3
 have hi:=h0.ti
 have HTL:Hid (ts.length≤200001):=h0.tl
 have HC:Hid (closing≠[]):=hc
 have HBW:Hid (B≤w.heap.size):=by have:=h0.fb pb h0.pf;unfold Hid;omega
 have eg:∀ args w,(callFunc 162 args).run Tryz.prog w = .ok (.enter 162 args) w:=enters_of Tryz.func162 (by kernel_rfl) rfl
 simp only[P,if_true,Bool.false_eq_true,if_false] at hP
 simp only[Ctr,ptr,if_true,Bool.false_eq_true,if_false]
 have C1:=next_any h0
 clear hc
 by_cases e1:nx ts i=closing
 ·rw[if_pos e1] at hP
  cases hP
  have q1:=hT.more hi (show nx ts i≠[] by rw[e1];exact HC.out)
  rw[e1] at C1
  have CW:=fun w' (f:Fr [] w w')=>want_yes (h0.fr f (by simp)) closing e1 q1
  clear e1
  go_enter Tryz.func159,Tryz.ntmps159
  go_wp2_with fail
  refine C1.mono ?_
  rintro e w1 ⟨rfl,f1⟩
  have C2:=CW w1 f1
  clear C1 CW
  go_wp2_with fail
  refine C2.mono ?_
  rintro e w2 ⟨rfl,h2,f2⟩
  go_wp2
  go_ret
  exact⟨_,F,rfl,ON.nil _ _,fun k hk=>by simp[Value.ownBlock] at hk,h2,(Tr.of0 f1).trans (Tr.of f2)⟩
 ·rw[if_neg e1] at hP
  have ne:(nx ts i == closing)=false:=by simpa using e1
  have HP:Hid (_=some r):=hP
  clear e1 hP
  generalize nx ts i=X at *
  go_enter Tryz.func159,Tryz.ntmps159
  go_wp2_with fail
  refine C1.mono ?_
  rintro e w1 ⟨rfl,f1⟩
  have h1:=h0.fr f1 (by simp)
  have T1:=T0.fr f1 (by simp)
  have t1:=(Tr.refl F w).trans (Tr.of0 f1)
  clear C1
  rcases bindR_some HP.out with ⟨er,hr,he⟩ | ⟨v2,j2,n2,hr,hP2⟩
  ·subst he
   have C2:=H f .expr _ _ w1 _ _ (Nat.le_refl _) h1 T1 trivial hn hr
   simp only[Ctr,ptr] at C2
   go_wp2_with fail
   refine C2.mono ?_
   rintro e w2 ⟨rfl,f2⟩
   exact⟨rfl,rfl,t1.ends f2⟩
  ·obtain⟨oa,ob,oc,od,oe⟩:=run_ok hT (nt:=.expr) (ns:=ns) h1.ti trivial hr
   simp only[consN,slack] at oa od
   obtain⟨m2,rfl,hm2⟩:=oe rfl
   have C2:=H f .expr _ _ w1 _ _ (Nat.le_refl _) h1 T1 trivial hn hr
   simp only[Ctr,ptr] at C2
   have HP:Hid (P ts f (.listedL true closing [m2]) j2 n2=some r):=hP2
   have hb2:Hid (n2.length≤2*j2+1∧i<j2∧j2<ts.length):=by unfold Hid;omega
   clear hr oa ob oc od oe hP2 hn hm2
   go_wp2_with fail
   refine C2.mono ?_
   rintro e w2 ⟨he,F2,h2,s2⟩
   obtain rfl:e = .returned (.int .i64 (m2:Nat)):=he
   have T2:=h1.tabs T1 s2.f
   have t2:=t1.trans s2
   have HB2:Hid (B≤w2.heap.size):=by have:=HBW.out;have:=t2.f.size;unfold Hid;omega
   have k2:=KR.nil B w F2 w2
   clear C2 ne
   go_wp2_with (at_builtin;refine wpList_append_own_at _ rfl _ _ 26 rfl B 3 i3 (.int .i64 0) 1 8 under35 hi3 hz hz1 hby rfl (by decide) (.slice none 0 0) 0 (([] : List Nat).map (fun k=>Value.int .i64 (k:Nat))) rfl (k2.on.alloc _) ⟨w2.heap.size,0,none⟩ 1 1 [.int .i64 (m2:Nat)] rfl rfl (one_new w2 _) (by simp[Value.oneCell']) (by unfold maxLen;omega) (by omega) (by have:=HB2.out;simp;omega) ?_)
   intro v3 w3 hown3 hgrow3 hnil3 hloc3
   have f3:Fr [] w2 w3:=((Fr.refl _ _).alloc _).trans ((Fr.ofGrown hgrow3).sub (fun k hk=>by simp[Value.ownBlock] at hk))
   have h3:=h2.fr f3 (by simp)
   have T3:Tabs w3:=T2.fr f3 (by simp)
   have k3:=k2.snoc (m:=m2) t2.f.size (fun k hk=>(h2.fb k hk).2) hown3 (by simpa using hloc3)
   simp only[List.nil_append] at k3
   have t3:Tr F w F2 w3:=t2.trans (Tr.of0 f3)
   clear hgrow3 hnil3 hloc3 f3 h2 T2 k2 t2 hown3 h1 T1 t1 f1 s2
   obtain⟨ya,yc,hy0,_⟩:=own_slice k3.on
   have hy:v3 = .slice ya 1 yc:=hy0
   clear hy0
   subst hy
   go_wp2
   go_loopw [7] (fun kv wr=>∃ g acc i' ns' F',g≤f∧PS ts B pb F' i' ns' wr∧Tabs wr∧KR B w F' wr kv acc∧Tr F w F' wr∧Hid (ns'.length≤2*i' + 1∧i<i'∧acc.length≤i')∧Hid (P ts g (.listedL true closing acc) i' ns' = some r)) (fun _ wr=>ts.length-posOf pb wr)
   case atStart=>exact⟨f,[m2],j2,n2,F2,Nat.le_refl _,h3,T3,k3,t3,by have:=hb2.out;unfold Hid;simp;omega,HP⟩
   case round =>
    obtain⟨g,acc,p,ms,F4,hg,hps,hTb,hkr,htr,hbd,hPP⟩:=hrel
    clear h3 T3 t3 k3 HP hb2
    have HG:Hid (g≤f):=hg
    have hpi:=hps.ti
    have HPI:Hid (p<ts.length∧posOf pb wr=p):=⟨hpi,hps.pos⟩
    clear hg
    obtain⟨ka,kc,hkv,_⟩:=own_slice hkr.on
    subst hkv
    cases g with
    | zero=>exact absurd hPP.out (by simp[P])
    | succ g =>
      have hP:=hPP.out
      clear hPP
      simp only[P,if_true,Bool.false_eq_true,if_false] at hP
      by_cases e:nx ts p = [44]
      ·rw[if_pos e] at hP
       have q5:=hT.more hpi (show nx ts p≠[] by rw[e];decide)
       have C5:=passIf_yes hps [44] e q5
       clear e
       go_wp2_with fail
       refine C5.mono ?_
       rintro e w5 ⟨rfl,h5,f5⟩
       have T5:=hps.tabs hTb f5
       have k5:=hkr.tr (Tr.of f5)
       have t5:=htr.trans (Tr.of f5)
       clear C5
       rcases bindR_some hP with ⟨er,hr,he⟩ | ⟨v6,j6,n6,hr,hP6⟩
       ·subst he
        have C6:=H g .expr _ _ w5 _ _ (by have:=HG.out;omega) h5 T5 trivial (by have:=hbd.out;omega) hr
        simp only[Ctr,ptr] at C6
        go_wp2_with fail
        refine C6.mono ?_
        rintro e w6 ⟨rfl,f6⟩
        exact⟨rfl,rfl,t5.ends f6⟩
       ·obtain⟨oa,ob,oc,od,oe⟩:=run_ok hT (nt:=.expr) (ns:=ms) h5.ti trivial hr
        simp only[consN,slack] at oa od
        obtain⟨m6,rfl,hm6⟩:=oe rfl
        have C6:=H g .expr _ _ w5 _ _ (by have:=HG.out;omega) h5 T5 trivial (by have:=hbd.out;omega) hr
        simp only[Ctr,ptr] at C6
        have HP6:Hid (P ts g (.listedL true closing (acc++[m6])) j6 n6=some r):=hP6
        have hb6:Hid (n6.length≤2*j6+1∧i<j6∧acc.length+1≤j6∧p<j6∧j6<ts.length):=by have:=hbd.out;unfold Hid;omega
        clear hP hr oa ob oc od oe hP6 hm6
        go_wp2_with fail
        refine C6.mono ?_
        rintro e w6 ⟨he,F6,h6,s6⟩
        obtain rfl:e = .returned (.int .i64 (m6:Nat)):=he
        have k6:=k5.tr s6
        have t6:=t5.trans s6
        have T6:=h5.tabs T5 s6.f
        have HB6:Hid (B≤w6.heap.size):=by have:=HBW.out;have:=t6.f.size;unfold Hid;omega
        clear C6
        go_wp2_with (at_builtin;refine wpList_append_own_at _ rfl _ _ 26 rfl B 3 i3 (.int .i64 0) 1 8 under35 hi3 hz hz1 hby rfl (by decide) (.slice ka acc.length kc) acc.length (acc.map (fun k=>Value.int .i64 (k:Nat))) rfl (k6.on.alloc _) ⟨w6.heap.size,0,none⟩ 1 1 [.int .i64 (m6:Nat)] rfl rfl (one_new w6 _) (by simp[Value.oneCell']) (by have:=hb6.out;have:=HTL.out;unfold maxLen;omega) (by have:=hb6.out;have:=HTL.out;omega) (by have:=HB6.out;simp;omega) ?_)
        intro v7 w7 hown7 hgrow7 hnil7 hloc7
        have f7:Fr (Value.slice ka acc.length kc).ownBlock.toList w6 w7:=((Fr.refl _ _).alloc _).trans ((Fr.ofGrown hgrow7).sub (fun k hk=>.inl hk))
        have hni:∀ k∈(Value.slice ka acc.length kc).ownBlock.toList,k∉F6:=fun k hk=>k6.ni k (by simpa using hk)
        have h7:=h6.fr f7 hni
        have T7:Tabs w7:=T6.fr f7 (fun k hk=>by have:=(k6.on.lt k (by simpa using hk)).1;have:=h6.lo;omega)
        have k7:=k6.snoc t6.f.size (fun k hk=>(h6.fb k hk).2) hown7 (by simpa using hloc7)
        have t7:Tr F w F6 w7:=row_tr t6 f7 (fun k hk=>k6.lo k (by simpa using hk))
        clear hgrow7 hnil7 hloc7 f7 hni h6 T6 k6 t6 k5 t5 h5 T5 hkr hps hTb htr hown7
        have HM7:Hid (posOf pb w7=j6):=h7.pos
        go_wp2
        go_roundw
        case rel=>exact⟨g,acc++[m6],j6,n6,F6,by have:=HG.out;omega,h7,T7,k7,t7,by have:=hb6.out;unfold Hid;simp;omega,HP6⟩
        case measure =>
         have e1:=hb6.out
         have e2:=HPI.out
         have e3:=HM7.out
         omega
      ·rw[if_neg e] at hP
       have C5:=passIf_no hps [44] e
       clear e
       by_cases ec:nx ts p=closing
       ·rw[wantR_yes ec] at hP
        cases hP
        have q5:=hT.more hpi (show nx ts p≠[] by rw[ec];exact HC.out)
        have CW:=fun w' (f:Fr [] wr w')=>want_yes (hps.fr f (by simp)) closing ec q5
        clear ec
        go_wp2_with fail
        refine C5.mono ?_
        rintro e w5 ⟨rfl,f5⟩
        have C6:=CW w5 f5
        clear C5 CW
        go_wp2_with fail
        refine C6.mono ?_
        rintro e w6 ⟨rfl,h6,f6⟩
        have k6:=(hkr.tr (Tr.of0 f5)).tr (Tr.of f6)
        have t6:=(htr.trans (Tr.of0 f5)).trans (Tr.of f6)
        go_wp2
        go_ret
        exact⟨_,F4,rfl,k6.on,fun k hk=>⟨k6.ni k hk,k6.lo k hk⟩,h6,t6⟩
       ·rw[wantR_no ec] at hP
        cases hP
        have CW:=fun w' (f:Fr [] wr w')=>want_no (hps.fr f (by simp)) closing ec
        clear ec
        go_wp2_with fail
        refine C5.mono ?_
        rintro e w5 ⟨rfl,f5⟩
        have C6:=CW w5 f5
        clear C5 CW
        go_wp2_with fail
        refine C6.mono ?_
        rintro e w6 ⟨rfl,f6⟩
        exact⟨rfl,rfl,htr.ends ((f5.trans f6).sub (by simp))⟩
end Go.Proofs.YtnmfcaahdeddnaaGreatDoor
