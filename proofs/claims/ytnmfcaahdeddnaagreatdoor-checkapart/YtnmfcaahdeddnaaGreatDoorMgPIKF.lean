/-
  Parts of the proof; conditions: as each says.
-/
import Derived.Test.YtnmfcaahdeddnaaGreatDoorMgKFHK
set_option maxRecDepth 100000
namespace Go.Proofs.YtnmfcaahdeddnaaGreatDoor
open Go.RowKit
set_option linter.unusedVariables false
set_option linter.unusedSimpArgs false
theorem RS.node {ts:List Tok} {B rb:Nat} {F:List Nat} {i:Nat} {ns:List PN} {w:World} (h:RS ts B rb F i ns w) {m:Nat} (hm:m<ns.length) : ∃ nb nc,w.cell? ⟨rb,2,none⟩=some (.slice (some ⟨nb,0,none⟩) ns.length nc)∧ns.length≤nc∧w.cell? ⟨nb,m*4,none⟩=some (.int .i64 (kdN ns m:Nat))∧w.cell? ⟨nb,m*4+3,none⟩=some (.int .i64 (plN ns m:Nat)):=by
 obtain⟨tg,tc,nv,L,h1,h2,h3,h4,h11,h12,h13,h14⟩:=h.ex
 have hl:L.length=ns.length:=by rw[← h11];simp
 have hx:L[m]? = some (L[m]'(by omega)):=List.getElem?_eq_getElem _
 generalize L[m]'(by omega)=y at hx
 have hn:ns[m]? = some y.x:=by rw[← h11,List.getElem?_map,hx];rfl
 obtain⟨_,_,c2,_⟩:=h1.cells
 rcases h12.2 with ⟨_,e0⟩ | ⟨g,cap,cur,rfl,hb,hg,hc,hmx,hs,ht⟩
 ·omega
 ·have cell:∀ j u,j<L.length*4→(flatM L)[j]? = some u→w.cell? ⟨g,j,none⟩=some u:=fun j u hj hu=>by
   have:(cur.toList.take (L.length*4))[j]? = (flatM L)[j]? := by rw[ht]
   rw[List.getElem?_take_of_lt hj,hu] at this
   simp only[World.cell?,hg]
   simpa using this
  refine⟨g,cap,by rw[hl] at c2;exact c2,by omega,?_,?_⟩
  ·have:=cell (m*4+0) _ (by omega) (flatM_get hx 0 (by decide))
   rw[show kdN ns m=y.x.kind by unfold kdN;rw[hn]]
   exact this
  ·have:=cell (m*4+3) _ (by omega) (flatM_get hx 3 (by decide))
   rw[show plN ns m=y.x.pl by unfold plN;rw[hn]]
   exact this
set_option maxHeartbeats 2000000 in
theorem r_setOrDo {ts:List Tok} {B rb:Nat} (hT:Toks ts) (K:KT ts) {f i:Nat} {ns:List PN} {w:World} {F:List Nat} {r:Except Nat (List Nat×Nat×List PN)} (H:RHyp ts B rb f) (h0:RS ts B rb F i ns w) (hp:preN ts i ns (.setOrDo)) (hn:ns.length≤2*i+1) (hP:P ts (f+1) (.setOrDo) i ns=some r) : RCtr ts B rb F w r (.setOrDo):=by
 have hi:=h0.ti
 have HTL:Hid (ts.length≤200001):=h0.tl
 simp only[P] at hP
 have HP:Hid (_=some r):=hP
 clear hP
 simp only[RCtr,ptr]
 have t0:=Tr.refl F w
 have HN:Hid (ns.length≤2*i+1):=hn
 clear hn
 rcases bindR_some HP.out with ⟨er,hr,he⟩ | ⟨v1,j1,n1,hr,hP⟩
 ·subst he
  have C1:=H f (.back) _ _ w _ _ (Nat.le_refl _) h0 trivial (by have:=HN.out;omega) hr
  simp only[RCtr,ptr] at C1
  go_enter Tryz.func143,Tryz.ntmps143
  go_wp2_with fail
  refine C1.mono ?_
  rintro e w1 ⟨x1,rfl,hb1,f1⟩
  clear C1
  have fe1:=t0.ends f1
  have c3_2:=hb1.cells
  go_wp2
  go_ret
  exact⟨_,rfl,hb1,fe1⟩
 obtain⟨o1a,o1b,o1c,o1d,o1e⟩:=run_ok hT (nt:=.back) (ns:=ns) h0.ti trivial hr
 simp only[consN,slack] at o1a o1d
 obtain⟨m1,rfl,hm1⟩:=o1e rfl
 have C1:=H f (.back) _ _ w _ _ (Nat.le_refl _) h0 trivial (by have:=HN.out;omega) hr
 simp only[RCtr,ptr] at C1
 have HP:Hid (_=some r):=hP
 have B1:Hid (n1.length+0≤2*j1+1∧i<j1∧m1<n1.length):=by have:=HN.out;unfold Hid;omega
 have q1:=o1b
 clear hP hr o1a o1b o1c o1d o1e hm1
 go_enter Tryz.func143,Tryz.ntmps143
 go_wp2_with fail
 refine C1.mono ?_
 rintro e w1 ⟨he,F1,h1,s1⟩
 obtain rfl:e = .returned (.int .i64 (m1:Nat)):=he
 clear C1
 have f1:=s1.f
 have t1:=t0.trans s1
 have HKK:Hid (m1<n1.length):=B1.out.2.2
 obtain⟨_,_,_,c3a,_⟩:=h1.cells
 have C3:=h1.now
 unfold tokA at C3
 go_wp2_with fail
 refine C3.mono ?_
 rintro e w3 ⟨rfl,f3⟩
 clear C3
 have fl3:=fld2 ((tk ts (j1)).kind:Nat) ((tk ts (j1)).frm:Nat) ((tk ts (j1)).to:Nat) ((tk ts (j1)).n:Nat) ⟨(tk ts (j1)).text.toArray⟩ w3
 have h3:=h1.fr f3 (by simp)
 have t3:=t1.trans (Tr.of0 f3)
 obtain⟨nb,nc,d2,hnc,k0,k3⟩:=h3.node HKK.out
 have hmI:(m1:Int)<n1.length:=by have:=HKK.out;omega
 have hncI:(n1.length:Int)≤nc:=by omega
 have hcap:(n1.length:Int)≤1000000:=by have:=B1.out;have:=HTL.out;have:=q1;omega
 have hm0:(0:Int)≤(m1:Int):=by omega
 have hP:=HP.out
 clear HP
 simp only[hd,List.getD_cons_zero] at hP
 have CI:=h3.is [61]
 rw[K.is h3.ti (by decide)] at CI
 by_cases e1:nx ts (j1) = [61]
 ·rw[decide_eq_true e1] at CI
  have HNE:Hid (nx ts (j1)≠[]):=by unfold Hid;rw[e1];decide
  cases hpl:placeK (kdN n1 m1) with
  | false =>
    rw[if_neg (fun h=>by rw[hpl] at h;cases h.1)] at hP
    have hr:r = .error (j1):=by
     by_cases e2:kdN n1 m1=22
     ·rw[if_neg (fun h=>h e2),wantR_no (by rw[e1];decide)] at hP;cases hP;rfl
     ·rw[if_pos e2] at hP;cases hP;rfl
    subst hr
    have b17:(((kdN n1 m1:Nat) : Int) != 17)=true:=by simp[placeK] at hpl;simp;omega
    have b20:(((kdN n1 m1:Nat) : Int) != 20)=true:=by simp[placeK] at hpl;simp;omega
    have b21:(((kdN n1 m1:Nat) : Int) != 21)=true:=by simp[placeK] at hpl;simp;omega
    have b30:(((kdN n1 m1:Nat) : Int) != 30)=true:=by simp[placeK] at hpl;simp;omega
    clear hP hpl e1
    generalize kdN n1 m1=KD at *
    go_wp2_with fail
    refine CI.mono ?_
    rintro e w4 ⟨rfl,f4⟩
    have h4:=h3.fr f4 (by simp)
    have t4:=t3.trans (Tr.of0 f4)
    clear CI
    have CF:=h4.fail
    go_wp2_with fail
    refine CF.mono ?_
    rintro e wz ⟨rfl,hbz,fz⟩
    go_wp2
    go_ret
    exact⟨_,rfl,hbz,t4.ends fz⟩
  | true =>
    rw[if_pos ⟨hpl,e1⟩] at hP
    obtain _ | f:=f
    ·simp[P] at hP
    simp only[P] at hP
    have HP:Hid (_=some r):=hP
    clear hP e1
    have hkd:kdN n1 m1=17∨kdN n1 m1=20∨kdN n1 m1=21∨kdN n1 m1=30:=by simp[placeK] at hpl;omega
    clear hpl
    rcases hkd with ek | ek | ek | ek
    ·rw[ek] at k0
     clear ek
     go_wp2_with fail
     refine CI.mono ?_
     rintro e w4 ⟨rfl,f4⟩
     have h4:=h3.fr f4 (by simp)
     have t4:=t3.trans (Tr.of0 f4)
     clear CI
     clear k0 k3 d2 c3a
     have q5:=hT.more q1 HNE.out
     obtain⟨_,c1_5,_,c3_5,cz_5⟩:=h4.cells
     have z1_5:=cz_5 1
     clear cz_5
     have hbi5:(j1:Int)+1≤200001:=by have:=HTL.out;omega
     have h5:=h4.step q5
     have ei5:((j1+1:Nat) : Int)=(j1:Int)+1:=by omega
     rw[ei5] at h5
     clear ei5
     have g5:Fr [rb] w4 (w4.setCell ⟨rb,1,none⟩ (.int .i64 ((j1:Int)+1))):=Fr.setCell (Fr.refl _ _) (.inl (by simp)) _
     have f5:Fr F1 w4 (w4.setCell ⟨rb,1,none⟩ (.int .i64 ((j1:Int)+1))):=g5.sub (fun k hk=>.inl (by simp at hk;subst hk;exact h4.pf))
     have s5:=Tr.of f5
     have t5:=t4.trans s5
     rcases bindR_some HP.out with ⟨er,hr,he⟩ | ⟨v6,j6,n6,hr,hP⟩
     ·subst he
      have C6:=H f (.expr) _ _ (w4.setCell ⟨rb,1,none⟩ (.int .i64 ((j1:Int)+1))) _ _ (by omega) h5 trivial (by have:=B1.out;omega) hr
      simp only[RCtr,ptr] at C6
      go_wp2_with fail
      refine C6.mono ?_
      rintro e w6 ⟨x6,rfl,hb6,f6⟩
      clear C6
      have fe6:=t5.ends f6
      go_wp2_with fail
      refine (rwant_bad hb6 [59]).mono ?_
      rintro e w7 ⟨rfl,f7⟩
      have hb7:=hb6.fr f7
      have fe7:=fe6.trans (f7.sub (by simp))
      go_wp2_with fail
      refine (rnode_bad (ts:=ts) (rb:=rb) (p:=_) (by first | exact hb7 | exact hb7.fr ((Fr.refl _ _).alloc _)) _ _ _ _).mono ?_
      rintro e w8 ⟨rfl,f8⟩
      have f8:Fr [] w7 w8:=by first | exact f8 | exact ((Fr.refl [] _).alloc _).trans f8
      have hb8:=hb7.fr f8
      have fe8:=fe7.trans (f8.sub (by simp))
      go_wp2
      go_ret
      exact⟨_,rfl,hb8,fe8⟩
     obtain⟨o6a,o6b,o6c,o6d,o6e⟩:=run_ok hT (nt:=.expr) (ns:=n1) h5.ti trivial hr
     simp only[consN,slack] at o6a o6d
     obtain⟨m6,rfl,hm6⟩:=o6e rfl
     have C6:=H f (.expr) _ _ (w4.setCell ⟨rb,1,none⟩ (.int .i64 ((j1:Int)+1))) _ _ (by omega) h5 trivial (by have:=B1.out;omega) hr
     simp only[RCtr,ptr] at C6
     have HP:Hid (_=some r):=hP
     have B6:Hid (n6.length+1≤2*j6+0∧i<j6∧m6<n6.length):=by have:=B1.out;unfold Hid;omega
     have q6:=o6b
     clear hP hr o6a o6b o6c o6d o6e hm6
     go_wp2_with fail
     refine C6.mono ?_
     rintro e w6 ⟨he,F6,h6,s6⟩
     obtain rfl:e = .returned (.int .i64 (m6:Nat)):=he
     clear C6
     have f6:=s6.f
     have t6:=t5.trans s6
     by_cases e9:nx ts (j6) = [59]
     rotate_left
     ·have hP:=HP.out
      rw[wantR_no e9] at hP
      have C9:=rwant_no h6 K [59] (by unfold Sg;decide) e9
      cases hP
      go_wp2_with fail
      refine C9.mono ?_
      rintro e w9 ⟨rfl,hb9,f9⟩
      clear C9
      have fe9:=t6.ends f9
      go_wp2_with fail
      refine (rnode_bad (ts:=ts) (rb:=rb) (p:=_) (by first | exact hb9 | exact hb9.fr ((Fr.refl _ _).alloc _)) _ _ _ _).mono ?_
      rintro e w10 ⟨rfl,f10⟩
      have f10:Fr [] w9 w10:=by first | exact f10 | exact ((Fr.refl [] _).alloc _).trans f10
      have hb10:=hb9.fr f10
      have fe10:=fe9.trans (f10.sub (by simp))
      go_wp2
      go_ret
      exact⟨_,rfl,hb10,fe10⟩
     have q9:=hT.more q6 (show nx ts (j6)≠[] by rw[e9];decide)
     have hP:=HP.out
     rw[wantR_yes e9] at hP
     have HP:Hid (_=some r):=hP
     clear hP
     have C9:=rwant_yes h6 K [59] (by unfold Sg;decide) e9 q9
     clear e9
     go_wp2_with fail
     refine C9.mono ?_
     rintro e w9 ⟨rfl,h9,f9⟩
     clear C9
     have s9:=Tr.of f9
     have t9:=t6.trans s9
     have h9:RS ts B rb F6 (j6+1) n6 w9:=h9
     have q9:j6+1<ts.length:=q9
     have hP:=HP.out
     cases hP
     have gb:Fr [] w9 (w9.alloc (.cells #[.int .i64 (m1:Nat),.int .i64 (m6:Nat)] 3)):=(Fr.refl _ _).alloc _
     have ob:ON (w9.alloc (.cells #[.int .i64 (m1:Nat),.int .i64 (m6:Nat)] 3)) B (.slice (some ⟨w9.heap.size,0,none⟩) 2 2) [m1,m6]:=ON.built w9 B (by have:=h9.fb rb h9.pf;omega) [m1,m6] (by simp)
     have KV0:=ON.kv ob
     have LO:∀ k∈(Value.slice (some ⟨w9.heap.size,0,none⟩) 2 2).ownBlock.toList,w.heap.size≤k:=fun k hk=>by rw[own_mem hk];exact t9.f.size
     have hbb:=h9.fr gb (by simp)
     have tbb:=t9.trans (Tr.of0 gb)
     have CL:=rnode_any hbb KV0 6 [] (tk ts (j1)).frm (by have:=B6.out;have:=HTL.out;have:=q9;omega)
     go_wp2_with fail
     refine CL.mono ?_
     rintro e wz ⟨rfl,Fz,hz,fz,sz⟩
     have tz:Tr F w Fz wz:=lay_tr tbb fz sz LO
     go_wp2
     go_ret
     exact⟨rfl,Fz,hz,tz⟩
    ·rw[ek] at k0
     clear ek
     go_wp2_with fail
     refine CI.mono ?_
     rintro e w12 ⟨rfl,f12⟩
     have h12:=h3.fr f12 (by simp)
     have t12:=t3.trans (Tr.of0 f12)
     clear CI
     clear k0 k3 d2 c3a
     have q13:=hT.more q1 HNE.out
     obtain⟨_,c1_13,_,c3_13,cz_13⟩:=h12.cells
     have z1_13:=cz_13 1
     clear cz_13
     have hbi13:(j1:Int)+1≤200001:=by have:=HTL.out;omega
     have h13:=h12.step q13
     have ei13:((j1+1:Nat) : Int)=(j1:Int)+1:=by omega
     rw[ei13] at h13
     clear ei13
     have g13:Fr [rb] w12 (w12.setCell ⟨rb,1,none⟩ (.int .i64 ((j1:Int)+1))):=Fr.setCell (Fr.refl _ _) (.inl (by simp)) _
     have f13:Fr F1 w12 (w12.setCell ⟨rb,1,none⟩ (.int .i64 ((j1:Int)+1))):=g13.sub (fun k hk=>.inl (by simp at hk;subst hk;exact h12.pf))
     have s13:=Tr.of f13
     have t13:=t12.trans s13
     rcases bindR_some HP.out with ⟨er,hr,he⟩ | ⟨v14,j14,n14,hr,hP⟩
     ·subst he
      have C14:=H f (.expr) _ _ (w12.setCell ⟨rb,1,none⟩ (.int .i64 ((j1:Int)+1))) _ _ (by omega) h13 trivial (by have:=B1.out;omega) hr
      simp only[RCtr,ptr] at C14
      go_wp2_with fail
      refine C14.mono ?_
      rintro e w14 ⟨x14,rfl,hb14,f14⟩
      clear C14
      have fe14:=t13.ends f14
      go_wp2_with fail
      refine (rwant_bad hb14 [59]).mono ?_
      rintro e w15 ⟨rfl,f15⟩
      have hb15:=hb14.fr f15
      have fe15:=fe14.trans (f15.sub (by simp))
      go_wp2_with fail
      refine (rnode_bad (ts:=ts) (rb:=rb) (p:=_) (by first | exact hb15 | exact hb15.fr ((Fr.refl _ _).alloc _)) _ _ _ _).mono ?_
      rintro e w16 ⟨rfl,f16⟩
      have f16:Fr [] w15 w16:=by first | exact f16 | exact ((Fr.refl [] _).alloc _).trans f16
      have hb16:=hb15.fr f16
      have fe16:=fe15.trans (f16.sub (by simp))
      go_wp2
      go_ret
      exact⟨_,rfl,hb16,fe16⟩
     obtain⟨o14a,o14b,o14c,o14d,o14e⟩:=run_ok hT (nt:=.expr) (ns:=n1) h13.ti trivial hr
     simp only[consN,slack] at o14a o14d
     obtain⟨m14,rfl,hm14⟩:=o14e rfl
     have C14:=H f (.expr) _ _ (w12.setCell ⟨rb,1,none⟩ (.int .i64 ((j1:Int)+1))) _ _ (by omega) h13 trivial (by have:=B1.out;omega) hr
     simp only[RCtr,ptr] at C14
     have HP:Hid (_=some r):=hP
     have B14:Hid (n14.length+1≤2*j14+0∧i<j14∧m14<n14.length):=by have:=B1.out;unfold Hid;omega
     have q14:=o14b
     clear hP hr o14a o14b o14c o14d o14e hm14
     go_wp2_with fail
     refine C14.mono ?_
     rintro e w14 ⟨he,F14,h14,s14⟩
     obtain rfl:e = .returned (.int .i64 (m14:Nat)):=he
     clear C14
     have f14:=s14.f
     have t14:=t13.trans s14
     by_cases e17:nx ts (j14) = [59]
     rotate_left
     ·have hP:=HP.out
      rw[wantR_no e17] at hP
      have C17:=rwant_no h14 K [59] (by unfold Sg;decide) e17
      cases hP
      go_wp2_with fail
      refine C17.mono ?_
      rintro e w17 ⟨rfl,hb17,f17⟩
      clear C17
      have fe17:=t14.ends f17
      go_wp2_with fail
      refine (rnode_bad (ts:=ts) (rb:=rb) (p:=_) (by first | exact hb17 | exact hb17.fr ((Fr.refl _ _).alloc _)) _ _ _ _).mono ?_
      rintro e w18 ⟨rfl,f18⟩
      have f18:Fr [] w17 w18:=by first | exact f18 | exact ((Fr.refl [] _).alloc _).trans f18
      have hb18:=hb17.fr f18
      have fe18:=fe17.trans (f18.sub (by simp))
      go_wp2
      go_ret
      exact⟨_,rfl,hb18,fe18⟩
     have q17:=hT.more q14 (show nx ts (j14)≠[] by rw[e17];decide)
     have hP:=HP.out
     rw[wantR_yes e17] at hP
     have HP:Hid (_=some r):=hP
     clear hP
     have C17:=rwant_yes h14 K [59] (by unfold Sg;decide) e17 q17
     clear e17
     go_wp2_with fail
     refine C17.mono ?_
     rintro e w17 ⟨rfl,h17,f17⟩
     clear C17
     have s17:=Tr.of f17
     have t17:=t14.trans s17
     have h17:RS ts B rb F14 (j14+1) n14 w17:=h17
     have q17:j14+1<ts.length:=q17
     have hP:=HP.out
     cases hP
     have gb:Fr [] w17 (w17.alloc (.cells #[.int .i64 (m1:Nat),.int .i64 (m14:Nat)] 3)):=(Fr.refl _ _).alloc _
     have ob:ON (w17.alloc (.cells #[.int .i64 (m1:Nat),.int .i64 (m14:Nat)] 3)) B (.slice (some ⟨w17.heap.size,0,none⟩) 2 2) [m1,m14]:=ON.built w17 B (by have:=h17.fb rb h17.pf;omega) [m1,m14] (by simp)
     have KV0:=ON.kv ob
     have LO:∀ k∈(Value.slice (some ⟨w17.heap.size,0,none⟩) 2 2).ownBlock.toList,w.heap.size≤k:=fun k hk=>by rw[own_mem hk];exact t17.f.size
     have hbb:=h17.fr gb (by simp)
     have tbb:=t17.trans (Tr.of0 gb)
     have CL:=rnode_any hbb KV0 6 [] (tk ts (j1)).frm (by have:=B14.out;have:=HTL.out;have:=q17;omega)
     go_wp2_with fail
     refine CL.mono ?_
     rintro e wz ⟨rfl,Fz,hz,fz,sz⟩
     have tz:Tr F w Fz wz:=lay_tr tbb fz sz LO
     go_wp2
     go_ret
     exact⟨rfl,Fz,hz,tz⟩
    ·rw[ek] at k0
     clear ek
     go_wp2_with fail
     refine CI.mono ?_
     rintro e w20 ⟨rfl,f20⟩
     have h20:=h3.fr f20 (by simp)
     have t20:=t3.trans (Tr.of0 f20)
     clear CI
     clear k0 k3 d2 c3a
     have q21:=hT.more q1 HNE.out
     obtain⟨_,c1_21,_,c3_21,cz_21⟩:=h20.cells
     have z1_21:=cz_21 1
     clear cz_21
     have hbi21:(j1:Int)+1≤200001:=by have:=HTL.out;omega
     have h21:=h20.step q21
     have ei21:((j1+1:Nat) : Int)=(j1:Int)+1:=by omega
     rw[ei21] at h21
     clear ei21
     have g21:Fr [rb] w20 (w20.setCell ⟨rb,1,none⟩ (.int .i64 ((j1:Int)+1))):=Fr.setCell (Fr.refl _ _) (.inl (by simp)) _
     have f21:Fr F1 w20 (w20.setCell ⟨rb,1,none⟩ (.int .i64 ((j1:Int)+1))):=g21.sub (fun k hk=>.inl (by simp at hk;subst hk;exact h20.pf))
     have s21:=Tr.of f21
     have t21:=t20.trans s21
     rcases bindR_some HP.out with ⟨er,hr,he⟩ | ⟨v22,j22,n22,hr,hP⟩
     ·subst he
      have C22:=H f (.expr) _ _ (w20.setCell ⟨rb,1,none⟩ (.int .i64 ((j1:Int)+1))) _ _ (by omega) h21 trivial (by have:=B1.out;omega) hr
      simp only[RCtr,ptr] at C22
      go_wp2_with fail
      refine C22.mono ?_
      rintro e w22 ⟨x22,rfl,hb22,f22⟩
      clear C22
      have fe22:=t21.ends f22
      go_wp2_with fail
      refine (rwant_bad hb22 [59]).mono ?_
      rintro e w23 ⟨rfl,f23⟩
      have hb23:=hb22.fr f23
      have fe23:=fe22.trans (f23.sub (by simp))
      go_wp2_with fail
      refine (rnode_bad (ts:=ts) (rb:=rb) (p:=_) (by first | exact hb23 | exact hb23.fr ((Fr.refl _ _).alloc _)) _ _ _ _).mono ?_
      rintro e w24 ⟨rfl,f24⟩
      have f24:Fr [] w23 w24:=by first | exact f24 | exact ((Fr.refl [] _).alloc _).trans f24
      have hb24:=hb23.fr f24
      have fe24:=fe23.trans (f24.sub (by simp))
      go_wp2
      go_ret
      exact⟨_,rfl,hb24,fe24⟩
     obtain⟨o22a,o22b,o22c,o22d,o22e⟩:=run_ok hT (nt:=.expr) (ns:=n1) h21.ti trivial hr
     simp only[consN,slack] at o22a o22d
     obtain⟨m22,rfl,hm22⟩:=o22e rfl
     have C22:=H f (.expr) _ _ (w20.setCell ⟨rb,1,none⟩ (.int .i64 ((j1:Int)+1))) _ _ (by omega) h21 trivial (by have:=B1.out;omega) hr
     simp only[RCtr,ptr] at C22
     have HP:Hid (_=some r):=hP
     have B22:Hid (n22.length+1≤2*j22+0∧i<j22∧m22<n22.length):=by have:=B1.out;unfold Hid;omega
     have q22:=o22b
     clear hP hr o22a o22b o22c o22d o22e hm22
     go_wp2_with fail
     refine C22.mono ?_
     rintro e w22 ⟨he,F22,h22,s22⟩
     obtain rfl:e = .returned (.int .i64 (m22:Nat)):=he
     clear C22
     have f22:=s22.f
     have t22:=t21.trans s22
     by_cases e25:nx ts (j22) = [59]
     rotate_left
     ·have hP:=HP.out
      rw[wantR_no e25] at hP
      have C25:=rwant_no h22 K [59] (by unfold Sg;decide) e25
      cases hP
      go_wp2_with fail
      refine C25.mono ?_
      rintro e w25 ⟨rfl,hb25,f25⟩
      clear C25
      have fe25:=t22.ends f25
      go_wp2_with fail
      refine (rnode_bad (ts:=ts) (rb:=rb) (p:=_) (by first | exact hb25 | exact hb25.fr ((Fr.refl _ _).alloc _)) _ _ _ _).mono ?_
      rintro e w26 ⟨rfl,f26⟩
      have f26:Fr [] w25 w26:=by first | exact f26 | exact ((Fr.refl [] _).alloc _).trans f26
      have hb26:=hb25.fr f26
      have fe26:=fe25.trans (f26.sub (by simp))
      go_wp2
      go_ret
      exact⟨_,rfl,hb26,fe26⟩
     have q25:=hT.more q22 (show nx ts (j22)≠[] by rw[e25];decide)
     have hP:=HP.out
     rw[wantR_yes e25] at hP
     have HP:Hid (_=some r):=hP
     clear hP
     have C25:=rwant_yes h22 K [59] (by unfold Sg;decide) e25 q25
     clear e25
     go_wp2_with fail
     refine C25.mono ?_
     rintro e w25 ⟨rfl,h25,f25⟩
     clear C25
     have s25:=Tr.of f25
     have t25:=t22.trans s25
     have h25:RS ts B rb F22 (j22+1) n22 w25:=h25
     have q25:j22+1<ts.length:=q25
     have hP:=HP.out
     cases hP
     have gb:Fr [] w25 (w25.alloc (.cells #[.int .i64 (m1:Nat),.int .i64 (m22:Nat)] 3)):=(Fr.refl _ _).alloc _
     have ob:ON (w25.alloc (.cells #[.int .i64 (m1:Nat),.int .i64 (m22:Nat)] 3)) B (.slice (some ⟨w25.heap.size,0,none⟩) 2 2) [m1,m22]:=ON.built w25 B (by have:=h25.fb rb h25.pf;omega) [m1,m22] (by simp)
     have KV0:=ON.kv ob
     have LO:∀ k∈(Value.slice (some ⟨w25.heap.size,0,none⟩) 2 2).ownBlock.toList,w.heap.size≤k:=fun k hk=>by rw[own_mem hk];exact t25.f.size
     have hbb:=h25.fr gb (by simp)
     have tbb:=t25.trans (Tr.of0 gb)
     have CL:=rnode_any hbb KV0 6 [] (tk ts (j1)).frm (by have:=B22.out;have:=HTL.out;have:=q25;omega)
     go_wp2_with fail
     refine CL.mono ?_
     rintro e wz ⟨rfl,Fz,hz,fz,sz⟩
     have tz:Tr F w Fz wz:=lay_tr tbb fz sz LO
     go_wp2
     go_ret
     exact⟨rfl,Fz,hz,tz⟩
    ·rw[ek] at k0
     clear ek
     go_wp2_with fail
     refine CI.mono ?_
     rintro e w28 ⟨rfl,f28⟩
     have h28:=h3.fr f28 (by simp)
     have t28:=t3.trans (Tr.of0 f28)
     clear CI
     clear k0 k3 d2 c3a
     have q29:=hT.more q1 HNE.out
     obtain⟨_,c1_29,_,c3_29,cz_29⟩:=h28.cells
     have z1_29:=cz_29 1
     clear cz_29
     have hbi29:(j1:Int)+1≤200001:=by have:=HTL.out;omega
     have h29:=h28.step q29
     have ei29:((j1+1:Nat) : Int)=(j1:Int)+1:=by omega
     rw[ei29] at h29
     clear ei29
     have g29:Fr [rb] w28 (w28.setCell ⟨rb,1,none⟩ (.int .i64 ((j1:Int)+1))):=Fr.setCell (Fr.refl _ _) (.inl (by simp)) _
     have f29:Fr F1 w28 (w28.setCell ⟨rb,1,none⟩ (.int .i64 ((j1:Int)+1))):=g29.sub (fun k hk=>.inl (by simp at hk;subst hk;exact h28.pf))
     have s29:=Tr.of f29
     have t29:=t28.trans s29
     rcases bindR_some HP.out with ⟨er,hr,he⟩ | ⟨v30,j30,n30,hr,hP⟩
     ·subst he
      have C30:=H f (.expr) _ _ (w28.setCell ⟨rb,1,none⟩ (.int .i64 ((j1:Int)+1))) _ _ (by omega) h29 trivial (by have:=B1.out;omega) hr
      simp only[RCtr,ptr] at C30
      go_wp2_with fail
      refine C30.mono ?_
      rintro e w30 ⟨x30,rfl,hb30,f30⟩
      clear C30
      have fe30:=t29.ends f30
      go_wp2_with fail
      refine (rwant_bad hb30 [59]).mono ?_
      rintro e w31 ⟨rfl,f31⟩
      have hb31:=hb30.fr f31
      have fe31:=fe30.trans (f31.sub (by simp))
      go_wp2_with fail
      refine (rnode_bad (ts:=ts) (rb:=rb) (p:=_) (by first | exact hb31 | exact hb31.fr ((Fr.refl _ _).alloc _)) _ _ _ _).mono ?_
      rintro e w32 ⟨rfl,f32⟩
      have f32:Fr [] w31 w32:=by first | exact f32 | exact ((Fr.refl [] _).alloc _).trans f32
      have hb32:=hb31.fr f32
      have fe32:=fe31.trans (f32.sub (by simp))
      go_wp2
      go_ret
      exact⟨_,rfl,hb32,fe32⟩
     obtain⟨o30a,o30b,o30c,o30d,o30e⟩:=run_ok hT (nt:=.expr) (ns:=n1) h29.ti trivial hr
     simp only[consN,slack] at o30a o30d
     obtain⟨m30,rfl,hm30⟩:=o30e rfl
     have C30:=H f (.expr) _ _ (w28.setCell ⟨rb,1,none⟩ (.int .i64 ((j1:Int)+1))) _ _ (by omega) h29 trivial (by have:=B1.out;omega) hr
     simp only[RCtr,ptr] at C30
     have HP:Hid (_=some r):=hP
     have B30:Hid (n30.length+1≤2*j30+0∧i<j30∧m30<n30.length):=by have:=B1.out;unfold Hid;omega
     have q30:=o30b
     clear hP hr o30a o30b o30c o30d o30e hm30
     go_wp2_with fail
     refine C30.mono ?_
     rintro e w30 ⟨he,F30,h30,s30⟩
     obtain rfl:e = .returned (.int .i64 (m30:Nat)):=he
     clear C30
     have f30:=s30.f
     have t30:=t29.trans s30
     by_cases e33:nx ts (j30) = [59]
     rotate_left
     ·have hP:=HP.out
      rw[wantR_no e33] at hP
      have C33:=rwant_no h30 K [59] (by unfold Sg;decide) e33
      cases hP
      go_wp2_with fail
      refine C33.mono ?_
      rintro e w33 ⟨rfl,hb33,f33⟩
      clear C33
      have fe33:=t30.ends f33
      go_wp2_with fail
      refine (rnode_bad (ts:=ts) (rb:=rb) (p:=_) (by first | exact hb33 | exact hb33.fr ((Fr.refl _ _).alloc _)) _ _ _ _).mono ?_
      rintro e w34 ⟨rfl,f34⟩
      have f34:Fr [] w33 w34:=by first | exact f34 | exact ((Fr.refl [] _).alloc _).trans f34
      have hb34:=hb33.fr f34
      have fe34:=fe33.trans (f34.sub (by simp))
      go_wp2
      go_ret
      exact⟨_,rfl,hb34,fe34⟩
     have q33:=hT.more q30 (show nx ts (j30)≠[] by rw[e33];decide)
     have hP:=HP.out
     rw[wantR_yes e33] at hP
     have HP:Hid (_=some r):=hP
     clear hP
     have C33:=rwant_yes h30 K [59] (by unfold Sg;decide) e33 q33
     clear e33
     go_wp2_with fail
     refine C33.mono ?_
     rintro e w33 ⟨rfl,h33,f33⟩
     clear C33
     have s33:=Tr.of f33
     have t33:=t30.trans s33
     have h33:RS ts B rb F30 (j30+1) n30 w33:=h33
     have q33:j30+1<ts.length:=q33
     have hP:=HP.out
     cases hP
     have gb:Fr [] w33 (w33.alloc (.cells #[.int .i64 (m1:Nat),.int .i64 (m30:Nat)] 3)):=(Fr.refl _ _).alloc _
     have ob:ON (w33.alloc (.cells #[.int .i64 (m1:Nat),.int .i64 (m30:Nat)] 3)) B (.slice (some ⟨w33.heap.size,0,none⟩) 2 2) [m1,m30]:=ON.built w33 B (by have:=h33.fb rb h33.pf;omega) [m1,m30] (by simp)
     have KV0:=ON.kv ob
     have LO:∀ k∈(Value.slice (some ⟨w33.heap.size,0,none⟩) 2 2).ownBlock.toList,w.heap.size≤k:=fun k hk=>by rw[own_mem hk];exact t33.f.size
     have hbb:=h33.fr gb (by simp)
     have tbb:=t33.trans (Tr.of0 gb)
     have CL:=rnode_any hbb KV0 6 [] (tk ts (j1)).frm (by have:=B30.out;have:=HTL.out;have:=q33;omega)
     go_wp2_with fail
     refine CL.mono ?_
     rintro e wz ⟨rfl,Fz,hz,fz,sz⟩
     have tz:Tr F w Fz wz:=lay_tr tbb fz sz LO
     go_wp2
     go_ret
     exact⟨rfl,Fz,hz,tz⟩
 ·rw[decide_eq_false e1] at CI
  rw[if_neg (fun h=>e1 h.2)] at hP
  go_wp2_with fail
  refine CI.mono ?_
  rintro e w36 ⟨rfl,f36⟩
  have h36:=h3.fr f36 (by simp)
  have t36:=t3.trans (Tr.of0 f36)
  clear CI
  have CI2:=h36.is [59]
  rw[K.is h36.ti (by decide)] at CI2
  by_cases e2:nx ts (j1) = [59]
  ·rw[decide_eq_true e2] at CI2
   have EW:Hid (nx ts (j1) = [59]):=e2
   have q9:=hT.more q1 (show nx ts (j1)≠[] by rw[e2];decide)
   clear e1 e2
   by_cases e3:kdN n1 m1=22
   ·rw[if_neg (fun h=>h e3),wantR_yes EW.out] at hP
    cases hP
    have b22:(((kdN n1 m1:Nat) : Int) != 22)=false:=by simp;omega
    have c22:(((kdN n1 m1:Nat) : Int) == 22)=true:=by simp;omega
    clear e3
    go_wp2_with fail
    refine CI2.mono ?_
    rintro e w37 ⟨rfl,f37⟩
    have h37:=h36.fr f37 (by simp)
    have t37:=t36.trans (Tr.of0 f37)
    clear CI2
    obtain⟨nb2,nc2,d22,hnc2,_,k32⟩:=h37.node HKK.out
    have hncI2:(n1.length:Int)≤nc2:=by omega
    have C9:=rwant_yes h37 K [59] (by unfold Sg;decide) EW.out q9
    obtain⟨PL,HPL⟩ : ∃ PL,Hid (plN n1 m1=PL):=⟨_,rfl⟩
    rw[HPL.out] at k32 k3
    clear k0 k3 d2 hnc hncI
    go_wp2_with fail
    refine C9.mono ?_
    rintro e w9 ⟨rfl,h9,f9⟩
    clear C9 k32 d22
    have s9:=Tr.of f9
    have t9:=t37.trans s9
    have h9:RS ts B rb F1 (j1+1) n1 w9:=h9
    have q9:j1+1<ts.length:=q9
    have gb:Fr [] w9 (w9.alloc (.cells #[.int .i64 (m1:Nat)] 3)):=(Fr.refl _ _).alloc _
    have ob:ON (w9.alloc (.cells #[.int .i64 (m1:Nat)] 3)) B (.slice (some ⟨w9.heap.size,0,none⟩) 1 1) [m1]:=ON.built w9 B (by have:=h9.fb rb h9.pf;omega) [m1] (by simp)
    have KV0:=ON.kv ob
    have LO:∀ k∈(Value.slice (some ⟨w9.heap.size,0,none⟩) 1 1).ownBlock.toList,w.heap.size≤k:=fun k hk=>by rw[own_mem hk];exact t9.f.size
    have hbb:=h9.fr gb (by simp)
    have tbb:=t9.trans (Tr.of0 gb)
    have CL:=rnode_any hbb KV0 12 [] PL (by have:=B1.out;have:=HTL.out;have:=q9;omega)
    go_wp2_with fail
    refine CL.mono ?_
    rintro e wz ⟨rfl,Fz,hz,fz,sz⟩
    have tz:Tr F w Fz wz:=lay_tr tbb fz sz LO
    go_wp2
    go_ret
    exact⟨rfl,Fz,by rw[HPL.out];exact hz,tz⟩
   ·rw[if_pos e3] at hP
    cases hP
    have b22:(((kdN n1 m1:Nat) : Int) != 22)=true:=by simp;omega
    clear e3
    generalize kdN n1 m1=KD at *
    go_wp2_with fail
    refine CI2.mono ?_
    rintro e w37 ⟨rfl,f37⟩
    have h37:=h36.fr f37 (by simp)
    have t37:=t36.trans (Tr.of0 f37)
    clear CI2
    have CF:=h37.fail
    go_wp2_with fail
    refine CF.mono ?_
    rintro e wz ⟨rfl,hbz,fz⟩
    go_wp2
    go_ret
    exact⟨_,rfl,hbz,t37.ends fz⟩
  ·rw[decide_eq_false e2] at CI2
   have hr:r = .error (j1):=by
    by_cases e3:kdN n1 m1=22
    ·rw[if_neg (fun h=>h e3),wantR_no e2] at hP;cases hP;rfl
    ·rw[if_pos e3] at hP;cases hP;rfl
   subst hr
   clear hP
   have EW:Hid (¬ nx ts (j1) = [59]):=e2
   clear e1 e2
   go_wp2_with fail
   refine CI2.mono ?_
   rintro e w38 ⟨rfl,f38⟩
   have h38:=h36.fr f38 (by simp)
   have t38:=t36.trans (Tr.of0 f38)
   clear CI2
   obtain⟨nb2,nc2,d22,hnc2,_,k32⟩:=h38.node HKK.out
   have hncI2:(n1.length:Int)≤nc2:=by omega
   have C9:=rwant_no h38 K [59] (by unfold Sg;decide) EW.out
   cases hb22:(((kdN n1 m1:Nat) : Int) == 22)
   ·generalize kdN n1 m1=KD at *
    generalize plN n1 m1=PL at *
    clear hnc hncI d2 k3
    go_wp2_with fail
    refine C9.mono ?_
    rintro e w9 ⟨rfl,hb9,f9⟩
    clear C9
    have fe9:=t38.ends f9
    go_wp2_with fail
    refine (rnode_bad (ts:=ts) (rb:=rb) (p:=_) (by first | exact hb9 | exact hb9.fr ((Fr.refl _ _).alloc _)) _ _ _ _).mono ?_
    rintro e w10 ⟨rfl,f10⟩
    have f10:Fr [] w9 w10:=by first | exact f10 | exact ((Fr.refl [] _).alloc _).trans f10
    have hb10:=hb9.fr f10
    have fe10:=fe9.trans (f10.sub (by simp))
    go_wp2
    go_ret
    exact⟨_,rfl,hb10,fe10⟩
   ·generalize kdN n1 m1=KD at *
    generalize plN n1 m1=PL at *
    clear hnc hncI d2 k3
    go_wp2_with fail
    refine C9.mono ?_
    rintro e w9 ⟨rfl,hb9,f9⟩
    clear C9
    have fe9:=t38.ends f9
    go_wp2_with fail
    refine (rnode_bad (ts:=ts) (rb:=rb) (p:=_) (by first | exact hb9 | exact hb9.fr ((Fr.refl _ _).alloc _)) _ _ _ _).mono ?_
    rintro e w10 ⟨rfl,f10⟩
    have f10:Fr [] w9 w10:=by first | exact f10 | exact ((Fr.refl [] _).alloc _).trans f10
    have hb10:=hb9.fr f10
    have fe10:=fe9.trans (f10.sub (by simp))
    go_wp2
    go_ret
    exact⟨_,rfl,hb10,fe10⟩
set_option maxHeartbeats 4000000 in
theorem r_back {ts:List Tok} {B rb:Nat} (hT:Toks ts) (K:KT ts) {f i:Nat} {ns:List PN} {w:World} {F:List Nat} {r:Except Nat (List Nat×Nat×List PN)} (H:RHyp ts B rb f) (h0:RS ts B rb F i ns w) (hn:ns.length≤2*i+1) (hP:P ts (f+1) .back i ns=some r) : RCtr ts B rb F w r .back:=by
 simp only[RCtr,ptr]
 have hi:=h0.ti
 have HTL:Hid (ts.length≤200001):=h0.tl
 simp only[P] at hP
 have t0:=Tr.refl F w
 have HN:Hid (ns.length≤2*i+1):=hn
 clear hn
 have HP:Hid (_=some r):=hP
 clear hP
 rcases bindR_some HP.out with ⟨er,hr,he⟩ | ⟨v1,j1,n1,hr,hP⟩
 ·subst he
  have C1:=H f (.first) _ _ w _ _ (Nat.le_refl _) h0 trivial (by have:=HN.out;omega) hr
  simp only[RCtr,ptr] at C1
  go_enter Tryz.func178,Tryz.ntmps178
  go_wp2_with fail
  refine C1.mono ?_
  rintro e w1 ⟨x1,rfl,hb1,f1⟩
  clear C1
  have fe1:=t0.ends f1
  have c3:=hb1.cells
  go_wp2
  go_loopw [3] (fun _ wr=>wr=w1) (fun _ _=>0)
  case atStart=>rfl
  case round =>
   subst hrel
   go_wp2
   go_ret
   exact⟨_,rfl,hb1,fe1⟩
 obtain⟨o1a,o1b,o1c,o1d,o1e⟩:=run_ok hT (nt:=.first) (ns:=ns) h0.ti trivial hr
 simp only[consN,slack] at o1a o1d
 obtain⟨m1,rfl,hm1⟩:=o1e rfl
 have C1:=H f (.first) _ _ w _ _ (Nat.le_refl _) h0 trivial (by have:=HN.out;omega) hr
 simp only[RCtr,ptr] at C1
 have HP:Hid (_=some r):=hP
 have B1:Hid (n1.length+0≤2*j1+1∧i<j1∧m1<n1.length):=by have:=HN.out;unfold Hid;omega
 have q1:=o1b
 clear hP hr o1a o1b o1c o1d o1e hm1
 go_enter Tryz.func178,Tryz.ntmps178
 go_wp2_with fail
 refine C1.mono ?_
 rintro e w1 ⟨he,F1,h1,s1⟩
 obtain rfl:e = .returned (.int .i64 (m1:Nat)):=he
 clear C1
 have f1:=s1.f
 have t1:=t0.trans s1
 go_wp2
 go_loopw [3] (fun ev wr=>(∃ g n i' ns' F',ev = .int .i64 (n:Nat)∧g≤f∧RS ts B rb F' i' ns' wr∧Tr F w F' wr∧Hid (ns'.length≤2*i' + 1∧n<ns'.length)∧Hid (P ts g (.backL n) i' ns' = some r))∨(∃ k,r = .error k∧RB ts rb (tk ts k).frm wr∧Fr F w wr)) (fun _ wr=>measR ts rb wr)
 case atStart=>exact .inl ⟨f,m1,_,_,_,rfl,Nat.le_refl _,h1,t1,by have:=B1.out;unfold Hid;omega,HP⟩
 case round =>
  rcases hrel with ⟨g,n,p,ms,F1,rfl,hg,hps,htr,hbd,hPP⟩ | ⟨k,rfl,hb,fe⟩
  rotate_left
  ·have c3:=hb.cells
   go_wp2
   go_ret
   exact⟨_,rfl,hb,fe⟩
  obtain _ | g:=g
  ·exact absurd hPP.out (by simp[P])
  have HG:Hid (g+1≤f):=hg
  have hpi:=hps.ti
  have HPI:Hid (p<ts.length∧measR ts rb wr=ts.length-p+1):=⟨hpi,hps.meas⟩
  clear hg
  clear h1 t1 HP
  obtain⟨_,_,_,c3w,_⟩:=hps.cells
  have C11:=hps.now
  unfold tokA at C11
  go_wp2_with fail
  refine C11.mono ?_
  rintro e w11 ⟨rfl,f11⟩
  clear C11
  have fl11:=fld2 ((tk ts (p)).kind:Nat) ((tk ts (p)).frm:Nat) ((tk ts (p)).to:Nat) ((tk ts (p)).n:Nat) ⟨(tk ts (p)).text.toArray⟩ w11
  have h11:=hps.fr f11 (by simp)
  have t11:=htr.trans (Tr.of0 f11)
  by_cases e12:nx ts (p) = [46]
  ·have q12:=hT.more hpi (show nx ts (p)≠[] by rw[e12];decide)
   have C12:=rtake_yes h11 K [46] (by unfold Sg;decide) e12 q12
   have E12:Hid (nx ts (p) = [46]):=e12
   clear e12
   go_wp2_with fail
   refine C12.mono ?_
   rintro e w12 ⟨rfl,h12,f12⟩
   clear C12
   have s12:=Tr.of f12
   have t12:=t11.trans s12
   have h12:RS ts B rb F1 (p+1) ms w12:=h12
   have q12:p+1<ts.length:=q12
   have HP:Hid (_=some r):=backL_dot hPP.out E12.out
   clear hPP E12
   by_cases e13:nx ts (p+1)=nmB
   rotate_left
   ·have hP:=HP.out
    rw[wantR_no e13] at hP
    have C13:=rname_no h12 K e13
    cases hP
    go_wp2_with fail
    refine C13.mono ?_
    rintro e w13 ⟨rfl,hb13,f13⟩
    clear C13
    have fe13:=t12.ends f13
    go_wp2_with fail
    refine (rnode_bad (ts:=ts) (rb:=rb) (p:=_) (by first | exact hb13 | exact hb13.fr ((Fr.refl _ _).alloc _)) _ _ _ _).mono ?_
    rintro e w14 ⟨rfl,f14⟩
    have f14:Fr [] w13 w14:=by first | exact f14 | exact ((Fr.refl [] _).alloc _).trans f14
    have hb14:=hb13.fr f14
    have fe14:=fe13.trans (f14.sub (by simp))
    have HM9:Hid (measR ts rb w14=0):=hb14.meas
    go_wp2
    go_roundw
    case rel=>exact .inr ⟨_,rfl,hb14,fe14⟩
    case measure=>have e2:=HPI.out;have e3:=HM9.out;omega
   have q13:=hT.more q12 (show nx ts (p+1)≠[] by rw[e13];decide)
   have hP:=HP.out
   rw[wantR_yes e13] at hP
   have HP:Hid (_=some r):=hP
   clear hP
   have C13:=rname_yes h12 K e13 q13
   clear e13
   go_wp2_with fail
   refine C13.mono ?_
   rintro e w13 ⟨rfl,h13,f13⟩
   clear C13
   have s13:=Tr.of f13
   have t13:=t12.trans s13
   have h13:RS ts B rb F1 (p+2) ms w13:=h13
   have q13:p+2<ts.length:=q13
   have gb:Fr [] w13 (w13.alloc (.cells #[.int .i64 (n:Nat)] 3)):=(Fr.refl _ _).alloc _
   have ob:ON (w13.alloc (.cells #[.int .i64 (n:Nat)] 3)) B (.slice (some ⟨w13.heap.size,0,none⟩) 1 1) [n]:=ON.built w13 B (by have:=h13.fb rb h13.pf;omega) [n] (by simp)
   have KV0:=ON.kv ob
   have LO:∀ k∈(Value.slice (some ⟨w13.heap.size,0,none⟩) 1 1).ownBlock.toList,w.heap.size≤k:=fun k hk=>by rw[own_mem hk];exact t13.f.size
   have hbb:=h13.fr gb (by simp)
   have tbb:=t13.trans (Tr.of0 gb)
   have CL:=rnode_any hbb KV0 20 (tk ts (p+1)).text (tk ts (p)).frm (by have:=hbd.out;have:=HTL.out;have:=q13;omega)
   go_wp2_with fail
   refine CL.mono ?_
   rintro e wz ⟨rfl,Fz,hz,fz,sz⟩
   have tz:Tr F w Fz wz:=lay_tr tbb fz sz LO
   have s15:Tr F1 w13 Fz wz:=lay_tr (Tr.of0 gb) fz sz (fun k hk=>by rw[own_mem hk];exact Nat.le_refl _)
   clear CL KV0 LO tz ob
   have f15:=s15.f
   have t15:=t13.trans s15
   have h15:=hz
   clear hz fz sz
   have HM9:Hid (measR ts rb wz=ts.length-(p+2)+1):=h15.meas
   go_wp2
   go_roundw
   case rel=>exact .inl ⟨g,_,_,_,_,rfl,by have:=HG.out;omega,h15,t15,(by have:=hbd.out;unfold Hid;simp;omega),HP⟩
   case measure=>have e2:=HPI.out;have e3:=HM9.out;have:=hbd.out;have:=q13;omega
  ·have C12:=rtake_no h11 K [46] (by unfold Sg;decide) e12
   have E12:Hid (¬ nx ts (p) = [46]):=e12
   clear e12
   go_wp2_with fail
   refine C12.mono ?_
   rintro e w12 ⟨rfl,f12⟩
   clear C12
   have h12:=h11.fr f12 (by simp)
   have t12:=t11.trans (Tr.of0 f12)
   by_cases e13:nx ts (p) = [91]
   ·have q13:=hT.more hpi (show nx ts (p)≠[] by rw[e13];decide)
    have C13:=rtake_yes h12 K [91] (by unfold Sg;decide) e13 q13
    have E13:Hid (nx ts (p) = [91]):=e13
    clear e13
    go_wp2_with fail
    refine C13.mono ?_
    rintro e w13 ⟨rfl,h13,f13⟩
    clear C13
    have s13:=Tr.of f13
    have t13:=t12.trans s13
    have h13:RS ts B rb F1 (p+1) ms w13:=h13
    have q13:p+1<ts.length:=q13
    obtain⟨g',hg',hP⟩:=backL_el hPP.out E12.out E13.out
    have HP:Hid (_=some r):=hP
    clear hP hPP E12 E13
    have HG' : Hid (g'≤f):=by have:=HG.out;unfold Hid;omega
    clear hg'
    rcases bindR_some HP.out with ⟨er,hr,he⟩ | ⟨v14,j14,n14,hr,hP⟩
    ·subst he
     have C14:=H g' (.expr) _ _ w13 _ _ HG'.out h13 trivial (by have:=hbd.out;omega) hr
     simp only[RCtr,ptr] at C14
     go_wp2_with fail
     refine C14.mono ?_
     rintro e w14 ⟨x14,rfl,hb14,f14⟩
     clear C14
     have fe14:=t13.ends f14
     go_wp2_with fail
     refine (rwant_bad hb14 [93]).mono ?_
     rintro e w15 ⟨rfl,f15⟩
     have hb15:=hb14.fr f15
     have fe15:=fe14.trans (f15.sub (by simp))
     go_wp2_with fail
     refine (rnode_bad (ts:=ts) (rb:=rb) (p:=_) (by first | exact hb15 | exact hb15.fr ((Fr.refl _ _).alloc _)) _ _ _ _).mono ?_
     rintro e w16 ⟨rfl,f16⟩
     have f16:Fr [] w15 w16:=by first | exact f16 | exact ((Fr.refl [] _).alloc _).trans f16
     have hb16:=hb15.fr f16
     have fe16:=fe15.trans (f16.sub (by simp))
     have HM9:Hid (measR ts rb w16=0):=hb16.meas
     go_wp2
     go_roundw
     case rel=>exact .inr ⟨_,rfl,hb16,fe16⟩
     case measure=>have e2:=HPI.out;have e3:=HM9.out;omega
    obtain⟨o14a,o14b,o14c,o14d,o14e⟩:=run_ok hT (nt:=.expr) (ns:=ms) h13.ti trivial hr
    simp only[consN,slack] at o14a o14d
    obtain⟨m14,rfl,hm14⟩:=o14e rfl
    have C14:=H g' (.expr) _ _ w13 _ _ HG'.out h13 trivial (by have:=hbd.out;omega) hr
    simp only[RCtr,ptr] at C14
    have HP:Hid (_=some r):=hP
    have B14:Hid (n14.length+1≤2*j14+0∧p<j14∧m14<n14.length):=by have:=hbd.out;unfold Hid;omega
    have q14:=o14b
    clear hP hr o14a o14b o14c o14d o14e hm14
    go_wp2_with fail
    refine C14.mono ?_
    rintro e w14 ⟨he,F14,h14,s14⟩
    obtain rfl:e = .returned (.int .i64 (m14:Nat)):=he
    clear C14
    have f14:=s14.f
    have t14:=t13.trans s14
    by_cases e17:nx ts (j14) = [93]
    rotate_left
    ·have hP:=HP.out
     rw[wantR_no e17] at hP
     have C17:=rwant_no h14 K [93] (by unfold Sg;decide) e17
     cases hP
     go_wp2_with fail
     refine C17.mono ?_
     rintro e w17 ⟨rfl,hb17,f17⟩
     clear C17
     have fe17:=t14.ends f17
     go_wp2_with fail
     refine (rnode_bad (ts:=ts) (rb:=rb) (p:=_) (by first | exact hb17 | exact hb17.fr ((Fr.refl _ _).alloc _)) _ _ _ _).mono ?_
     rintro e w18 ⟨rfl,f18⟩
     have f18:Fr [] w17 w18:=by first | exact f18 | exact ((Fr.refl [] _).alloc _).trans f18
     have hb18:=hb17.fr f18
     have fe18:=fe17.trans (f18.sub (by simp))
     have HM9:Hid (measR ts rb w18=0):=hb18.meas
     go_wp2
     go_roundw
     case rel=>exact .inr ⟨_,rfl,hb18,fe18⟩
     case measure=>have e2:=HPI.out;have e3:=HM9.out;omega
    have q17:=hT.more q14 (show nx ts (j14)≠[] by rw[e17];decide)
    have hP:=HP.out
    rw[wantR_yes e17] at hP
    have HP:Hid (_=some r):=hP
    clear hP
    have C17:=rwant_yes h14 K [93] (by unfold Sg;decide) e17 q17
    clear e17
    go_wp2_with fail
    refine C17.mono ?_
    rintro e w17 ⟨rfl,h17,f17⟩
    clear C17
    have s17:=Tr.of f17
    have t17:=t14.trans s17
    have h17:RS ts B rb F14 (j14+1) n14 w17:=h17
    have q17:j14+1<ts.length:=q17
    have gb:Fr [] w17 (w17.alloc (.cells #[.int .i64 (n:Nat),.int .i64 (m14:Nat)] 3)):=(Fr.refl _ _).alloc _
    have ob:ON (w17.alloc (.cells #[.int .i64 (n:Nat),.int .i64 (m14:Nat)] 3)) B (.slice (some ⟨w17.heap.size,0,none⟩) 2 2) [n,m14]:=ON.built w17 B (by have:=h17.fb rb h17.pf;omega) [n,m14] (by simp)
    have KV0:=ON.kv ob
    have LO:∀ k∈(Value.slice (some ⟨w17.heap.size,0,none⟩) 2 2).ownBlock.toList,w.heap.size≤k:=fun k hk=>by rw[own_mem hk];exact t17.f.size
    have hbb:=h17.fr gb (by simp)
    have tbb:=t17.trans (Tr.of0 gb)
    have CL:=rnode_any hbb KV0 21 [] (tk ts (p)).frm (by have:=B14.out;have:=HTL.out;have:=q17;omega)
    go_wp2_with fail
    refine CL.mono ?_
    rintro e wz ⟨rfl,Fz,hz,fz,sz⟩
    have tz:Tr F w Fz wz:=lay_tr tbb fz sz LO
    have s19:Tr F14 w17 Fz wz:=lay_tr (Tr.of0 gb) fz sz (fun k hk=>by rw[own_mem hk];exact Nat.le_refl _)
    clear CL KV0 LO tz ob
    have f19:=s19.f
    have t19:=t17.trans s19
    have h19:=hz
    clear hz fz sz
    have HM9:Hid (measR ts rb wz=ts.length-(j14+1)+1):=h19.meas
    go_wp2
    go_roundw
    case rel=>exact .inl ⟨g,_,_,_,_,rfl,by have:=HG.out;omega,h19,t19,(by have:=B14.out;unfold Hid;simp;omega),HP⟩
    case measure=>have e2:=HPI.out;have e3:=HM9.out;have:=B14.out;have:=q17;omega
   ·have C13:=rtake_no h12 K [91] (by unfold Sg;decide) e13
    have E13:Hid (¬ nx ts (p) = [91]):=e13
    clear e13
    go_wp2_with fail
    refine C13.mono ?_
    rintro e w13 ⟨rfl,f13⟩
    clear C13
    have h13:=h12.fr f13 (by simp)
    have t13:=t12.trans (Tr.of0 f13)
    have hr:=backL_no hPP.out E12.out E13.out
    subst hr
    clear hPP E12 E13
    go_wp2
    go_ret
    exact⟨rfl,_,h13,t13⟩
set_option maxHeartbeats 4000000 in
theorem r_block {ts:List Tok} {B rb:Nat} (hT:Toks ts) (K:KT ts) {f i pl0:Nat} {ns:List PN} {w:World} {F:List Nat} {r:Except Nat (List Nat×Nat×List PN)} (H:RHyp ts B rb f) (h0:RS ts B rb F i ns w) (hn:ns.length≤2*i+1) (hP:P ts (f+1) (.block pl0) i ns=some r) : RCtr ts B rb F w r (.block pl0):=by
 obtain⟨i3,hi3,hz,hz1,hby⟩:=info_parts info3
 have HBW:Hid (B≤w.heap.size):=by have:=h0.fb rb h0.pf;unfold Hid;omega
 simp only[RCtr,ptr]
 have hi:=h0.ti
 have HTL:Hid (ts.length≤200001):=h0.tl
 simp only[P] at hP
 have t0:=Tr.refl F w
 have HN:Hid (ns.length≤2*i+1):=hn
 clear hn
 have HP:Hid (_=some r):=hP
 clear hP
 have C1:=h0.now
 unfold tokA at C1
 go_enter Tryz.func66,Tryz.ntmps66
 go_wp2_with fail
 refine C1.mono ?_
 rintro e w1 ⟨rfl,f1⟩
 clear C1
 have fl1:=fld2 ((tk ts (i)).kind:Nat) ((tk ts (i)).frm:Nat) ((tk ts (i)).to:Nat) ((tk ts (i)).n:Nat) ⟨(tk ts (i)).text.toArray⟩ w1
 have h1:=h0.fr f1 (by simp)
 have t1:=t0.trans (Tr.of0 f1)
 by_cases e2:nx ts (i) = [123]
 rotate_left
 ·have hP:=HP.out
  rw[wantR_no e2] at hP
  have C2:=rwant_no h1 K [123] (by unfold Sg;decide) e2
  cases hP
  go_wp2_with fail
  refine C2.mono ?_
  rintro e w2 ⟨rfl,hb2,f2⟩
  clear C2
  have fe2:=t1.ends f2
  have c3:=hb2.cells
  go_wp2
  go_loopw [4] (fun kv wr=>wr=w2∧kv = .slice none 0 0) (fun _ _=>0)
  case atStart=>exact⟨rfl,rfl⟩
  case round =>
   obtain⟨rfl,rfl⟩:=hrel
   go_wp2_with fail
   refine (rwant_bad hb2 [125]).mono ?_
   rintro e w3 ⟨rfl,f3⟩
   have hb3:=hb2.fr f3
   have fe3:=fe2.trans (f3.sub (by simp))
   go_wp2_with fail
   refine (rnode_bad (ts:=ts) (rb:=rb) (p:=_) (by first | exact hb3 | exact hb3.fr ((Fr.refl _ _).alloc _)) _ _ _ _).mono ?_
   rintro e w4 ⟨rfl,f4⟩
   have f4:Fr [] w3 w4:=by first | exact f4 | exact ((Fr.refl [] _).alloc _).trans f4
   have hb4:=hb3.fr f4
   have fe4:=fe3.trans (f4.sub (by simp))
   go_wp2
   go_ret
   exact⟨_,rfl,hb4,fe4⟩
 have q2:=hT.more hi (show nx ts (i)≠[] by rw[e2];decide)
 have hP:=HP.out
 rw[wantR_yes e2] at hP
 have HP:Hid (_=some r):=hP
 clear hP
 have C2:=rwant_yes h1 K [123] (by unfold Sg;decide) e2 q2
 clear e2
 go_wp2_with fail
 refine C2.mono ?_
 rintro e w2 ⟨rfl,h2,f2⟩
 clear C2
 have s2:=Tr.of f2
 have t2:=t1.trans s2
 have h2:RS ts B rb F (i+1) ns w2:=h2
 have q2:i+1<ts.length:=q2
 clear fl1
 obtain⟨pl,HPL⟩ : ∃ pl,Hid ((tk ts (i)).frm=pl):=⟨_,rfl⟩
 rw[HPL.out] at HP
 go_wp2
 rw[HPL.out]
 go_loopw [4] (fun kv wr=>(∃ g acc i' ns' F',g≤f∧RS ts B rb F' i' ns' wr∧KR B w F' wr kv acc∧Tr F w F' wr∧Hid (ns'.length≤2*i' + 1∧acc.length≤i')∧Hid (P ts g (.blockL pl acc) i' ns' = some r))∨(∃ k,r = .error k∧RB ts rb (tk ts k).frm wr∧Fr F w wr)) (fun _ wr=>measR ts rb wr)
 case atStart=>exact .inl ⟨f,[],_,_,_,Nat.le_refl _,h2,KR.nil _ _ _ _,t2,by have:=HN.out;unfold Hid;simp;omega,HP⟩
 case round =>
  rcases hrel with ⟨g,acc,p,ms,F1,hg,hps,hkr,htr,hbd,hPP⟩ | ⟨k,rfl,hb,fe⟩
  rotate_left
  ·have c3:=hb.cells
   go_wp2_with fail
   refine (rwant_bad hb [125]).mono ?_
   rintro e w11 ⟨rfl,f11⟩
   have hb11:=hb.fr f11
   have fe11:=fe.trans (f11.sub (by simp))
   go_wp2_with fail
   refine (rnode_bad (ts:=ts) (rb:=rb) (p:=_) (by first | exact hb11 | exact hb11.fr ((Fr.refl _ _).alloc _)) _ _ _ _).mono ?_
   rintro e w12 ⟨rfl,f12⟩
   have f12:Fr [] w11 w12:=by first | exact f12 | exact ((Fr.refl [] _).alloc _).trans f12
   have hb12:=hb11.fr f12
   have fe12:=fe11.trans (f12.sub (by simp))
   go_wp2
   go_ret
   exact⟨_,rfl,hb12,fe12⟩
  obtain _ | g:=g
  ·exact absurd hPP.out (by simp[P])
  have HG:Hid (g+1≤f):=hg
  clear hg
  have hpi:=hps.ti
  have HPI:Hid (p<ts.length∧measR ts rb wr=ts.length-p+1):=⟨hpi,hps.meas⟩
  obtain⟨ka,kc,hkv,_⟩:=own_slice hkr.on
  subst hkv
  have o0:=hkr.on
  have ny0:=hkr.ni
  have z0:Hid (∀ k,(Value.slice ka acc.length kc).ownBlock=some k→w.heap.size≤k):=hkr.lo
  obtain⟨_,_,_,c3w,_⟩:=hps.cells
  clear hkr
  clear h2 t2 HP
  have hP:=hPP.out
  simp only[P] at hP
  clear hPP
  have CI:=hps.is [125]
  rw[K.is hpi (by decide)] at CI
  by_cases e1:nx ts p = [125]
  ·rw[if_pos e1] at hP
   cases hP
   rw[decide_eq_true e1] at CI
   have q8:=hT.more hpi (show nx ts p≠[] by rw[e1];decide)
   have EW:Hid (nx ts p = [125]):=e1
   clear e1
   go_wp2_with fail
   refine CI.mono ?_
   rintro e w11 ⟨rfl,f11⟩
   clear CI c3w
   have h11:=hps.fr f11 (by simp)
   have t11:=htr.trans (Tr.of0 f11)
   have o0_11:=own_fr o0 f11 (by simp)
   have C12:=rwant_yes h11 K [125] (by unfold Sg;decide) EW.out q8
   go_wp2_with fail
   refine C12.mono ?_
   rintro e w12 ⟨rfl,h12,f12⟩
   clear C12
   have q12:=q8
   have s12:=Tr.of f12
   have t12:=t11.trans s12
   have o0_12:=own_fr o0_11 f12 (fun k hk=>ny0 k hk)
   have oi0_12:∀ k,((Value.slice ka acc.length kc)).ownBlock=some k→k∉F1:=fun k hk=>Tr.notin s12 (ny0 k hk) (o0_11.lt k hk).2
   have h12:RS ts B rb F1 (p+1) ms w12:=h12
   have q12:p+1<ts.length:=q12
   have KV0:=ON.kv o0_12
   have LO:∀ k∈((Value.slice ka acc.length kc)).ownBlock.toList,w.heap.size≤k:=fun k hk=>z0.out k (by simpa using hk)
   have CL:=rnode_any h12 KV0 4 [] pl (by have:=hbd.out;have:=HTL.out;have:=q12;omega)
   go_wp2_with fail
   refine CL.mono ?_
   rintro e wz ⟨rfl,Fz,hz,fz,sz⟩
   have tz:Tr F w Fz wz:=lay_tr t12 fz sz LO
   go_wp2
   go_ret
   exact⟨rfl,Fz,hz,tz⟩
  ·rw[if_neg e1] at hP
   have HP:Hid (_=some r):=hP
   clear hP
   rw[decide_eq_false e1] at CI
   clear e1
   go_wp2_with fail
   refine CI.mono ?_
   rintro e w11 ⟨rfl,f11⟩
   clear CI c3w
   have h11:=hps.fr f11 (by simp)
   have t11:=htr.trans (Tr.of0 f11)
   have o0_11:=own_fr o0 f11 (by simp)
   rcases bindR_some HP.out with ⟨er,hr,he⟩ | ⟨v12,j12,n12,hr,hP⟩
   ·subst he
    have C12:=H g (.stmt) _ _ w11 _ _ (by have:=HG.out;omega) h11 trivial (by have:=hbd.out;omega) hr
    simp only[RCtr,ptr] at C12
    go_wp2_with fail
    refine C12.mono ?_
    rintro e w12 ⟨x12,rfl,hb12,f12⟩
    clear C12
    have fe12:=t11.ends f12
    have ob9:=own_fr o0_11 f12 (fun k hk=>ny0 k hk)
    have HB9:Hid (B≤w12.heap.size):=by have:=HBW.out;have:=fe12.size;unfold Hid;omega
    go_wp2_with (at_builtin;refine wpList_append_own_at _ rfl _ _ 26 rfl B 3 i3 (.int .i64 0) 1 8 under35 hi3 hz hz1 hby rfl (by decide) (.slice ka acc.length kc) acc.length (acc.map (fun k=>Value.int .i64 (k:Nat))) rfl (ob9.alloc _) ⟨w12.heap.size,0,none⟩ 1 1 [.int .i64 x12] rfl rfl (one_new w12 _) (by simp[Value.oneCell']) (by have:=hbd.out;have:=HPI.out;have:=HTL.out;unfold maxLen;omega) (by have:=hbd.out;have:=HPI.out;have:=HTL.out;omega) (by have:=HB9.out;simp;omega) ?_)
    intro v9 w9 hown9 hgrow9 hnil9 hloc9
    have f9:Fr (Value.slice ka acc.length kc).ownBlock.toList w12 w9:=((Fr.refl _ _).alloc _).trans ((Fr.ofGrown hgrow9).sub (fun k hk=>.inl hk))
    have hb9:=hb12.fr_row ob9 f9
    have fe9:Fr F w w9:=(Tr.of fe12).ends_row f9 (fun k hk=>z0.out k (by simpa using hk))
    obtain⟨va,vc,hv9,_⟩:=own_slice hown9
    subst hv9
    clear hown9 hgrow9 hnil9 hloc9 ob9
    have HM9:Hid (measR ts rb w9=0):=hb9.meas
    go_wp2
    go_roundw
    case rel=>exact .inr ⟨_,rfl,hb9,fe9⟩
    case measure=>have e2:=HPI.out;have e3:=HM9.out;omega
   obtain⟨o12a,o12b,o12c,o12d,o12e⟩:=run_ok hT (nt:=.stmt) (ns:=ms) h11.ti trivial hr
   simp only[consN,slack] at o12a o12d
   obtain⟨m12,rfl,hm12⟩:=o12e rfl
   have C12:=H g (.stmt) _ _ w11 _ _ (by have:=HG.out;omega) h11 trivial (by have:=hbd.out;omega) hr
   simp only[RCtr,ptr] at C12
   have HP:Hid (_=some r):=hP
   have B12:Hid (n12.length+0≤2*j12+1∧p<j12∧m12<n12.length):=by have:=hbd.out;unfold Hid;omega
   have q12:=o12b
   clear hP hr o12a o12b o12c o12d o12e hm12
   go_wp2_with fail
   refine C12.mono ?_
   rintro e w12 ⟨he,F12,h12,s12⟩
   obtain rfl:e = .returned (.int .i64 (m12:Nat)):=he
   clear C12
   have f12:=s12.f
   have t12:=t11.trans s12
   have o0_12:=own_fr o0_11 f12 (fun k hk=>ny0 k hk)
   have oi0_12:∀ k,((Value.slice ka acc.length kc)).ownBlock=some k→k∉F12:=fun k hk=>Tr.notin s12 (ny0 k hk) (o0_11.lt k hk).2
   have HB9:Hid (B≤w12.heap.size):=by have:=HBW.out;have:=t12.f.size;unfold Hid;omega
   go_wp2_with (at_builtin;refine wpList_append_own_at _ rfl _ _ 26 rfl B 3 i3 (.int .i64 0) 1 8 under35 hi3 hz hz1 hby rfl (by decide) (.slice ka acc.length kc) acc.length (acc.map (fun k=>Value.int .i64 (k:Nat))) rfl (o0_12.alloc _) ⟨w12.heap.size,0,none⟩ 1 1 [.int .i64 (m12:Nat)] rfl rfl (one_new w12 _) (by simp[Value.oneCell']) (by have:=hbd.out;have:=HPI.out;have:=HTL.out;unfold maxLen;omega) (by have:=hbd.out;have:=HPI.out;have:=HTL.out;omega) (by have:=HB9.out;simp;omega) ?_)
   intro v9 w9 hown9 hgrow9 hnil9 hloc9
   have f9:Fr (Value.slice ka acc.length kc).ownBlock.toList w12 w9:=((Fr.refl _ _).alloc _).trans ((Fr.ofGrown hgrow9).sub (fun k hk=>.inl hk))
   have kr9:KR B w F12 w12 (.slice ka acc.length kc) acc:=⟨o0_12,oi0_12,fun k hk=>z0.out k hk⟩
   have h9:=h12.fr f9 (fun k hk=>kr9.ni k (by simpa using hk))
   have k9:=kr9.snoc t12.f.size (fun j hj=>(h12.fb j hj).2) hown9 (by simpa using hloc9)
   have t9:Tr F w F12 w9:=row_tr t12 f9 (fun k hk=>kr9.lo k (by simpa using hk))
   have o9:=k9.on
   have ny9:=k9.ni
   have z9:Hid (∀ k,v9.ownBlock=some k→w.heap.size≤k):=k9.lo
   clear hown9 hgrow9 hnil9 hloc9 kr9 k9
   have HM9:Hid (measR ts rb w9=ts.length-(j12)+1):=h9.meas
   go_wp2
   go_roundw
   case rel=>exact .inl ⟨g,acc++[m12],_,_,_,by have:=HG.out;omega,h9,⟨o9,ny9,fun k hk=>z9.out k hk⟩,t9,by have:=B12.out;have:=hbd.out;unfold Hid;simp;omega,HP⟩
   case measure=>have e2:=HPI.out;have e3:=HM9.out;have:=B12.out;have:=q12;omega
theorem names_step {ts:List Tok} {g i:Nat} {ns:List PN} {c:List UInt8} {acc:List Nat} {r:Except Nat (List Nat×Nat×List PN)} (h:bindR (P ts g .name i ns) (fun v j ns=>P ts g (.listedL false c (acc++[hd v])) j ns)=some r) : wantR ts nmB i (P ts g (.listedL false c (acc++[ns.length])) (i+1) (ns++[⟨17,(tk ts i).text,[],(tk ts i).frm⟩]))=some r:=by
 rcases g with _ | g
 ·simp[P,bindR] at h
 ·have hj:P ts (g+1) .name i ns=wantR ts nmB i (layR 17 (tk ts i).text (tk ts i).frm [] (i+1) ns):=by rw[P]
  rw[hj,bindR_want,bindR_lay] at h
  exact h
theorem listedL_step {ts:List Tok} {g i:Nat} {ns:List PN} {thing:Bool} {c:List UInt8} {acc:List Nat} {r:Except Nat (List Nat×Nat×List PN)} (h:P ts g (.listedL thing c acc) i ns=some r) : ∃ g',g=g' + 1∧(nx ts i = [44]→bindR (P ts g' (if thing then .expr else .name) (i+1) ns) (fun v j ns=>P ts g' (.listedL thing c (acc++[hd v])) j ns)=some r)∧(¬ nx ts i = [44]→wantR ts c i (some (.ok (acc,i+1,ns)))=some r):=by
 rcases g with _ | g
 ·simp[P] at h
 ·rw[P] at h
  refine⟨g,rfl,fun e=>?_,fun e=>?_⟩
  ·simpa only[if_pos e] using h
  ·simpa only[if_neg e] using h
set_option maxHeartbeats 4000000 in
theorem r_names {ts:List Tok} {B rb:Nat} (hT:Toks ts) (K:KT ts) {f i:Nat} {c:List UInt8} {ns:List PN} {w:World} {F:List Nat} {r:Except Nat (List Nat×Nat×List PN)} (H:RHyp ts B rb f) (h0:RS ts B rb F i ns w) (hn:ns.length≤2*i+1) (hP:P ts (f+1) (.listed false c) i ns=some r) : RCtr ts B rb F w r (.listed false c):=by
 obtain⟨i3,hi3,hz,hz1,hby⟩:=info_parts info3
 have HBW:Hid (B≤w.heap.size):=by have:=h0.fb rb h0.pf;unfold Hid;omega
 simp only[RCtr,ptr]
 intro hsg hc
 have hi:=h0.ti
 have HTL:Hid (ts.length≤200001):=h0.tl
 simp only[P] at hP
 have t0:=Tr.refl F w
 have HN:Hid (ns.length≤2*i+1):=hn
 clear hn
 have HP:Hid (_=some r):=hP
 clear hP
 by_cases e1:nx ts i=c
 ·have hP:=HP.out
  rw[if_pos e1] at hP
  cases hP
  have q1:=hT.more hi (show nx ts i≠[] by rw[e1];exact hsg.2.2)
  have C1:=rtake_yes h0 K c hsg e1 q1
  clear e1
  go_enter Tryz.func64,Tryz.ntmps64
  go_wp2_with fail
  refine C1.mono ?_
  rintro e w1 ⟨rfl,h1,f1⟩
  go_wp2
  go_ret
  exact⟨_,F,rfl,ON.nil _ _,fun k h=>by simp[Value.ownBlock] at h,h1,Tr.of f1⟩
 ·have hP:=HP.out
  rw[if_neg e1] at hP
  have HP:Hid (_=some r):=hP
  clear hP
  have C1:=rtake_no h0 K c hsg e1
  clear e1
  go_enter Tryz.func64,Tryz.ntmps64
  go_wp2_with fail
  refine C1.mono ?_
  rintro e w1 ⟨rfl,f1⟩
  clear C1
  have h1:=h0.fr f1 (by simp)
  have t1:=t0.trans (Tr.of0 f1)
  go_wp2
  go_loopw [5] (fun kv wr=>(∃ g acc i' ns' F',g≤f∧RS ts B rb F' i' ns' wr∧KR B w F' wr kv acc∧Tr F w F' wr∧Hid (ns'.length≤2*i' + 1∧acc.length≤i')∧Hid (bindR (P ts g .name i' ns') (fun v j ns=>P ts g (.listedL false c (acc++[hd v])) j ns)=some r))∨(∃ k,r = .error k∧RB ts rb (tk ts k).frm wr∧Fr F w wr)) (fun _ wr=>measR ts rb wr)
  case atStart=>exact .inl ⟨f,[],_,_,_,Nat.le_refl _,h1,KR.nil _ _ _ _,t1,by have:=HN.out;unfold Hid;simp;omega,HP⟩
  case round =>
   rcases hrel with ⟨g,acc,p,ms,F1,hg,hps,hkr,htr,hbd,hPP⟩ | ⟨k,rfl,hb,fe⟩
   rotate_left
   ·have c3:=hb.cells
    go_wp2
    go_ret
    exact⟨rfl,hb,fe⟩
   have HG:Hid (g≤f):=hg
   clear hg
   have hpi:=hps.ti
   have HPI:Hid (p<ts.length∧measR ts rb wr=ts.length-p+1):=⟨hpi,hps.meas⟩
   obtain⟨ka,kc,hkv,_⟩:=own_slice hkr.on
   subst hkv
   have o0:=hkr.on
   have ny0:=hkr.ni
   have z0:Hid (∀ k,(Value.slice ka acc.length kc).ownBlock=some k→w.heap.size≤k):=hkr.lo
   obtain⟨_,_,_,c3w,_⟩:=hps.cells
   clear hkr
   clear h1 t1 HP
   have HP:Hid (_=some r):=names_step hPP.out
   clear hPP
   have C11:=hps.now
   unfold tokA at C11
   go_wp2_with fail
   refine C11.mono ?_
   rintro e w11 ⟨rfl,f11⟩
   clear C11
   have fl11:=fld2 ((tk ts (p)).kind:Nat) ((tk ts (p)).frm:Nat) ((tk ts (p)).to:Nat) ((tk ts (p)).n:Nat) ⟨(tk ts (p)).text.toArray⟩ w11
   have h11:=hps.fr f11 (by simp)
   have t11:=htr.trans (Tr.of0 f11)
   have o0_11:=own_fr o0 f11 (by simp)
   by_cases e12:nx ts (p)=nmB
   rotate_left
   ·have hP:=HP.out
    rw[wantR_no e12] at hP
    have C12:=rname_no h11 K e12
    cases hP
    go_wp2_with fail
    refine C12.mono ?_
    rintro e w12 ⟨rfl,hb12,f12⟩
    clear C12
    have fe12:=t11.ends f12
    go_wp2_with fail
    refine (rnode_bad (ts:=ts) (rb:=rb) (p:=_) (by first | exact hb12 | exact hb12.fr ((Fr.refl _ _).alloc _)) _ _ _ _).mono ?_
    rintro e w13 ⟨rfl,f13⟩
    have f13:Fr [] w12 w13:=by first | exact f13 | exact ((Fr.refl [] _).alloc _).trans f13
    have hb13:=hb12.fr f13
    have fe13:=fe12.trans (f13.sub (by simp))
    have ff9:Fr F1 w11 w13:=f12.trans (f13.sub (by simp))
    have ob9:=own_fr o0_11 ff9 (fun k hk=>ny0 k hk)
    have HB9:Hid (B≤w13.heap.size):=by have:=HBW.out;have:=fe13.size;unfold Hid;omega
    go_wp2_with (at_builtin;refine wpList_append_own_at _ rfl _ _ 26 rfl B 3 i3 (.int .i64 0) 1 8 under35 hi3 hz hz1 hby rfl (by decide) (.slice ka acc.length kc) acc.length (acc.map (fun k=>Value.int .i64 (k:Nat))) rfl (ob9.alloc _) ⟨w13.heap.size,0,none⟩ 1 1 [.int .i64 (-1)] rfl rfl (one_new w13 _) (by simp[Value.oneCell']) (by have:=hbd.out;have:=HPI.out;have:=HTL.out;unfold maxLen;omega) (by have:=hbd.out;have:=HPI.out;have:=HTL.out;omega) (by have:=HB9.out;simp;omega) ?_)
    intro v9 w9 hown9 hgrow9 hnil9 hloc9
    have f9:Fr (Value.slice ka acc.length kc).ownBlock.toList w13 w9:=((Fr.refl _ _).alloc _).trans ((Fr.ofGrown hgrow9).sub (fun k hk=>.inl hk))
    have hb9:=hb13.fr_row ob9 f9
    have fe9:Fr F w w9:=(Tr.of fe13).ends_row f9 (fun k hk=>z0.out k (by simpa using hk))
    obtain⟨va,vc,hv9,_⟩:=own_slice hown9
    subst hv9
    clear hown9 hgrow9 hnil9 hloc9 ob9
    go_wp2_with fail
    refine (rtake_bad hb9 c).mono ?_
    rintro e w14 ⟨rfl,f14⟩
    have hb14:=hb9.fr f14
    have fe14:=fe9.trans (f14.sub (by simp))
    go_wp2_with fail
    refine (rwant_bad hb14 [44]).mono ?_
    rintro e w15 ⟨rfl,f15⟩
    have hb15:=hb14.fr f15
    have fe15:=fe14.trans (f15.sub (by simp))
    have HM9:Hid (measR ts rb w15=0):=hb15.meas
    go_wp2
    go_roundw
    case rel=>exact .inr ⟨_,rfl,hb15,fe15⟩
    case measure=>have e2:=HPI.out;have e3:=HM9.out;omega
   have q12:=hT.more hpi (show nx ts (p)≠[] by rw[e12];decide)
   have hP:=HP.out
   rw[wantR_yes e12] at hP
   have HP:Hid (_=some r):=hP
   clear hP
   have C12:=rname_yes h11 K e12 q12
   clear e12
   go_wp2_with fail
   refine C12.mono ?_
   rintro e w12 ⟨rfl,h12,f12⟩
   clear C12
   have s12:=Tr.of f12
   have t12:=t11.trans s12
   have o0_12:=own_fr o0_11 f12 (fun k hk=>ny0 k hk)
   have oi0_12:∀ k,((Value.slice ka acc.length kc)).ownBlock=some k→k∉F1:=fun k hk=>Tr.notin s12 (ny0 k hk) (o0_11.lt k hk).2
   have h12:RS ts B rb F1 (p+1) ms w12:=h12
   have q12:p+1<ts.length:=q12
   have KV0:=KV.nil B w12
   have LO:∀ k∈([] : List Nat),w.heap.size≤k:=by simp
   have CL:=rnode_any h12 KV0 17 (tk ts (p)).text (tk ts (p)).frm (by have:=hbd.out;have:=HTL.out;have:=q12;omega)
   go_wp2_with fail
   refine CL.mono ?_
   rintro e wz ⟨rfl,Fz,hz,fz,sz⟩
   have tz:Tr F w Fz wz:=lay_tr t12 fz sz LO
   have s16:Tr F1 w12 Fz wz:=lay_tr (Tr.refl _ _) fz sz (by simp)
   clear CL KV0 LO tz
   have f16:=s16.f
   have t16:=t12.trans s16
   have h16:=hz
   clear hz fz sz
   have o0_16:=own_fr o0_12 f16 (fun k hk=>oi0_12 k hk)
   have oi0_16:∀ k,((Value.slice ka acc.length kc)).ownBlock=some k→k∉Fz:=fun k hk=>Tr.notin s16 (oi0_12 k hk) (o0_12.lt k hk).2
   have HB9:Hid (B≤wz.heap.size):=by have:=HBW.out;have:=t16.f.size;unfold Hid;omega
   go_wp2_with (at_builtin;refine wpList_append_own_at _ rfl _ _ 26 rfl B 3 i3 (.int .i64 0) 1 8 under35 hi3 hz hz1 hby rfl (by decide) (.slice ka acc.length kc) acc.length (acc.map (fun k=>Value.int .i64 (k:Nat))) rfl (o0_16.alloc _) ⟨wz.heap.size,0,none⟩ 1 1 [.int .i64 (ms.length:Nat)] rfl rfl (one_new wz _) (by simp[Value.oneCell']) (by have:=hbd.out;have:=HPI.out;have:=HTL.out;unfold maxLen;omega) (by have:=hbd.out;have:=HPI.out;have:=HTL.out;omega) (by have:=HB9.out;simp;omega) ?_)
   intro v9 w9 hown9 hgrow9 hnil9 hloc9
   have f9:Fr (Value.slice ka acc.length kc).ownBlock.toList wz w9:=((Fr.refl _ _).alloc _).trans ((Fr.ofGrown hgrow9).sub (fun k hk=>.inl hk))
   have kr9:KR B w Fz wz (.slice ka acc.length kc) acc:=⟨o0_16,oi0_16,fun k hk=>z0.out k hk⟩
   have h9:=h16.fr f9 (fun k hk=>kr9.ni k (by simpa using hk))
   have k9:=kr9.snoc t16.f.size (fun j hj=>(h16.fb j hj).2) hown9 (by simpa using hloc9)
   have t9:Tr F w Fz w9:=row_tr t16 f9 (fun k hk=>kr9.lo k (by simpa using hk))
   have o9:=k9.on
   have ny9:=k9.ni
   have z9:Hid (∀ k,v9.ownBlock=some k→w.heap.size≤k):=k9.lo
   clear hown9 hgrow9 hnil9 hloc9 kr9 k9
   obtain⟨g',hgg,hcom,hend⟩:=listedL_step HP.out
   clear HP
   subst hgg
   have HC:Hid (nx ts (p+1) = [44]→_):=hcom
   have HE:Hid (¬ nx ts (p+1) = [44]→_):=hend
   clear hcom hend
   obtain⟨va,vc,hv9,_⟩:=own_slice o9
   simp only[List.length_append,List.length_cons,List.length_nil,Nat.zero_add] at hv9
   subst hv9
   by_cases e5:nx ts (p+1)=c
   ·have hP:=HE.out (by rw[e5];exact hc)
    rw[wantR_yes e5] at hP
    cases hP
    have q5:=hT.more q12 (show nx ts (p+1)≠[] by rw[e5];exact hsg.2.2)
    have C5:=rtake_yes h9 K c hsg e5 q5
    clear e5 HC HE
    go_wp2_with fail
    refine C5.mono ?_
    rintro e w35 ⟨rfl,h35,f35⟩
    have s35:=Tr.of f35
    have o35:=own_fr o9 f35 (fun k hk=>ny9 k hk)
    go_wp2
    go_ret
    exact⟨_,_,rfl,o35,fun k hk=>⟨ny9 k hk,z9.out k hk⟩,h35,t9.trans s35⟩
   ·have C5:=rtake_no h9 K c hsg e5
    have E5:Hid (¬ nx ts (p+1)=c):=e5
    clear e5
    go_wp2_with fail
    refine C5.mono ?_
    rintro e w35 ⟨rfl,f35⟩
    clear C5
    have h35:=h9.fr f35 (by simp)
    have t35:=t9.trans (Tr.of0 f35)
    have o0_35:=own_fr o9 f35 (by simp)
    by_cases e6:nx ts (p+1) = [44]
    ·have HP:Hid (_=some r):=HC.out e6
     have q36:=hT.more q12 (show nx ts (p+1)≠[] by rw[e6];decide)
     have C6:=rwant_yes h35 K [44] (by unfold Sg;decide) e6 q36
     clear e6 HC HE
     go_wp2_with fail
     refine C6.mono ?_
     rintro e w36 ⟨rfl,h36,f36⟩
     clear C6
     have s36:=Tr.of f36
     have t36:=t35.trans s36
     have o0_36:=own_fr o0_35 f36 (fun k hk=>ny9 k hk)
     have oi0_36:∀ k,((Value.slice va (acc.length+1) vc)).ownBlock=some k→k∉Fz:=fun k hk=>Tr.notin s36 (ny9 k hk) (o0_35.lt k hk).2
     have h36:RS ts B rb Fz (p+2) (ms++[(⟨17,(tk ts (p)).text,[],(tk ts (p)).frm⟩ : PN)]) w36:=h36
     have q36:p+2<ts.length:=q36
     have HM9:Hid (measR ts rb w36=ts.length-(p+2)+1):=h36.meas
     go_wp2
     go_roundw
     case rel=>exact .inl ⟨g',acc++[ms.length],_,_,_,by have:=HG.out;omega,h36,⟨o0_36,oi0_36,fun k hk=>z9.out k hk⟩,t36,by have:=And.intro hbd.out (show ((ms++[(⟨17,(tk ts (p)).text,[],(tk ts (p)).frm⟩ : PN)])).length=ms.length+1 by simp);have:=hbd.out;unfold Hid;simp;omega,HP⟩
     case measure=>have e2:=HPI.out;have e3:=HM9.out;have:=And.intro hbd.out (show ((ms++[(⟨17,(tk ts (p)).text,[],(tk ts (p)).frm⟩ : PN)])).length=ms.length+1 by simp);have:=q36;omega
    ·have hP:=HE.out e6
     rw[wantR_no E5.out] at hP
     cases hP
     have C6:=rwant_no h35 K [44] (by unfold Sg;decide) e6
     clear e6 HC HE
     go_wp2_with fail
     refine C6.mono ?_
     rintro e w36 ⟨rfl,hb36,f36⟩
     clear C6
     have fe36:=t35.ends f36
     have HM9:Hid (measR ts rb w36=0):=hb36.meas
     go_wp2
     go_roundw
     case rel=>exact .inr ⟨_,rfl,hb36,fe36⟩
     case measure=>have e2:=HPI.out;have e3:=HM9.out;omega
set_option maxHeartbeats 4000000 in
theorem r_exprs {ts:List Tok} {B rb:Nat} (hT:Toks ts) (K:KT ts) {f i:Nat} {ns:List PN} {w:World} {F:List Nat} {r:Except Nat (List Nat×Nat×List PN)} (H:RHyp ts B rb f) (h0:RS ts B rb F i ns w) (hn:ns.length≤2*i+1) (hP:P ts (f+1) (.listed true [41]) i ns=some r) : RCtr ts B rb F w r (.listed true [41]):=by
 obtain⟨i3,hi3,hz,hz1,hby⟩:=info_parts info3
 have HBW:Hid (B≤w.heap.size):=by have:=h0.fb rb h0.pf;unfold Hid;omega
 simp only[RCtr,ptr]
 intro _
 have hi:=h0.ti
 have HTL:Hid (ts.length≤200001):=h0.tl
 simp only[P] at hP
 have t0:=Tr.refl F w
 have HN:Hid (ns.length≤2*i+1):=hn
 clear hn
 have HP:Hid (_=some r):=hP
 clear hP
 by_cases e1:nx ts i = [41]
 ·have hP:=HP.out
  rw[if_pos e1] at hP
  cases hP
  have q1:=hT.more hi (show nx ts i≠[] by rw[e1];decide)
  have C1:=rtake_yes h0 K [41] (by unfold Sg;decide) e1 q1
  clear e1
  go_enter Tryz.func217,Tryz.ntmps217
  go_wp2_with fail
  refine C1.mono ?_
  rintro e w1 ⟨rfl,h1,f1⟩
  go_wp2
  go_ret
  exact⟨_,F,rfl,ON.nil _ _,fun k h=>by simp[Value.ownBlock] at h,h1,Tr.of f1⟩
 ·have hP:=HP.out
  rw[if_neg e1] at hP
  have HP:Hid (_=some r):=hP
  clear hP
  have C1:=rtake_no h0 K [41] (by unfold Sg;decide) e1
  clear e1
  go_enter Tryz.func217,Tryz.ntmps217
  go_wp2_with fail
  refine C1.mono ?_
  rintro e w1 ⟨rfl,f1⟩
  clear C1
  have h1:=h0.fr f1 (by simp)
  have t1:=t0.trans (Tr.of0 f1)
  go_wp2
  go_loopw [3] (fun kv wr=>(∃ g acc i' ns' F',g≤f∧RS ts B rb F' i' ns' wr∧KR B w F' wr kv acc∧Tr F w F' wr∧Hid (ns'.length≤2*i' + 1∧acc.length≤i')∧Hid (bindR (P ts g .expr i' ns') (fun v j ns=>P ts g (.listedL true [41] (acc++[hd v])) j ns)=some r))∨(∃ k,r = .error k∧RB ts rb (tk ts k).frm wr∧Fr F w wr)) (fun _ wr=>measR ts rb wr)
  case atStart=>exact .inl ⟨f,[],_,_,_,Nat.le_refl _,h1,KR.nil _ _ _ _,t1,by have:=HN.out;unfold Hid;simp;omega,HP⟩
  case round =>
   rcases hrel with ⟨g,acc,p,ms,F1,hg,hps,hkr,htr,hbd,hPP⟩ | ⟨k,rfl,hb,fe⟩
   rotate_left
   ·have c3:=hb.cells
    go_wp2
    go_ret
    exact⟨rfl,hb,fe⟩
   have HG:Hid (g≤f):=hg
   clear hg
   have hpi:=hps.ti
   have HPI:Hid (p<ts.length∧measR ts rb wr=ts.length-p+1):=⟨hpi,hps.meas⟩
   obtain⟨ka,kc,hkv,_⟩:=own_slice hkr.on
   subst hkv
   have o0:=hkr.on
   have ny0:=hkr.ni
   have z0:Hid (∀ k,(Value.slice ka acc.length kc).ownBlock=some k→w.heap.size≤k):=hkr.lo
   obtain⟨_,_,_,c3w,_⟩:=hps.cells
   clear hkr
   clear h1 t1 HP
   have HP:Hid (_=some r):=hPP.out
   clear hPP
   rcases bindR_some HP.out with ⟨er,hr,he⟩ | ⟨v11,j11,n11,hr,hP⟩
   ·subst he
    have C11:=H g (.expr) _ _ wr _ _ (by have:=HG.out;omega) hps trivial (by have:=hbd.out;omega) hr
    simp only[RCtr,ptr] at C11
    go_wp2_with fail
    refine C11.mono ?_
    rintro e w11 ⟨x11,rfl,hb11,f11⟩
    clear C11
    have fe11:=htr.ends f11
    have ob9:=own_fr o0 f11 (fun k hk=>ny0 k hk)
    have HB9:Hid (B≤w11.heap.size):=by have:=HBW.out;have:=fe11.size;unfold Hid;omega
    go_wp2_with (at_builtin;refine wpList_append_own_at _ rfl _ _ 26 rfl B 3 i3 (.int .i64 0) 1 8 under35 hi3 hz hz1 hby rfl (by decide) (.slice ka acc.length kc) acc.length (acc.map (fun k=>Value.int .i64 (k:Nat))) rfl (ob9.alloc _) ⟨w11.heap.size,0,none⟩ 1 1 [.int .i64 x11] rfl rfl (one_new w11 _) (by simp[Value.oneCell']) (by have:=hbd.out;have:=HPI.out;have:=HTL.out;unfold maxLen;omega) (by have:=hbd.out;have:=HPI.out;have:=HTL.out;omega) (by have:=HB9.out;simp;omega) ?_)
    intro v9 w9 hown9 hgrow9 hnil9 hloc9
    have f9:Fr (Value.slice ka acc.length kc).ownBlock.toList w11 w9:=((Fr.refl _ _).alloc _).trans ((Fr.ofGrown hgrow9).sub (fun k hk=>.inl hk))
    have hb9:=hb11.fr_row ob9 f9
    have fe9:Fr F w w9:=(Tr.of fe11).ends_row f9 (fun k hk=>z0.out k (by simpa using hk))
    obtain⟨va,vc,hv9,_⟩:=own_slice hown9
    subst hv9
    clear hown9 hgrow9 hnil9 hloc9 ob9
    go_wp2_with fail
    refine (rtake_bad hb9 [41]).mono ?_
    rintro e w12 ⟨rfl,f12⟩
    have hb12:=hb9.fr f12
    have fe12:=fe9.trans (f12.sub (by simp))
    go_wp2_with fail
    refine (rwant_bad hb12 [44]).mono ?_
    rintro e w13 ⟨rfl,f13⟩
    have hb13:=hb12.fr f13
    have fe13:=fe12.trans (f13.sub (by simp))
    have HM9:Hid (measR ts rb w13=0):=hb13.meas
    go_wp2
    go_roundw
    case rel=>exact .inr ⟨_,rfl,hb13,fe13⟩
    case measure=>have e2:=HPI.out;have e3:=HM9.out;omega
   obtain⟨o11a,o11b,o11c,o11d,o11e⟩:=run_ok hT (nt:=.expr) (ns:=ms) hps.ti trivial hr
   simp only[consN,slack] at o11a o11d
   obtain⟨m11,rfl,hm11⟩:=o11e rfl
   have C11:=H g (.expr) _ _ wr _ _ (by have:=HG.out;omega) hps trivial (by have:=hbd.out;omega) hr
   simp only[RCtr,ptr] at C11
   have HP:Hid (_=some r):=hP
   have B11:Hid (n11.length+0≤2*j11+1∧p<j11∧m11<n11.length):=by have:=hbd.out;unfold Hid;omega
   have q11:=o11b
   clear hP hr o11a o11b o11c o11d o11e hm11
   go_wp2_with fail
   refine C11.mono ?_
   rintro e w11 ⟨he,F11,h11,s11⟩
   obtain rfl:e = .returned (.int .i64 (m11:Nat)):=he
   clear C11
   have f11:=s11.f
   have t11:=htr.trans s11
   have o0_11:=own_fr o0 f11 (fun k hk=>ny0 k hk)
   have oi0_11:∀ k,((Value.slice ka acc.length kc)).ownBlock=some k→k∉F11:=fun k hk=>Tr.notin s11 (ny0 k hk) (o0.lt k hk).2
   have HB9:Hid (B≤w11.heap.size):=by have:=HBW.out;have:=t11.f.size;unfold Hid;omega
   go_wp2_with (at_builtin;refine wpList_append_own_at _ rfl _ _ 26 rfl B 3 i3 (.int .i64 0) 1 8 under35 hi3 hz hz1 hby rfl (by decide) (.slice ka acc.length kc) acc.length (acc.map (fun k=>Value.int .i64 (k:Nat))) rfl (o0_11.alloc _) ⟨w11.heap.size,0,none⟩ 1 1 [.int .i64 (m11:Nat)] rfl rfl (one_new w11 _) (by simp[Value.oneCell']) (by have:=hbd.out;have:=HPI.out;have:=HTL.out;unfold maxLen;omega) (by have:=hbd.out;have:=HPI.out;have:=HTL.out;omega) (by have:=HB9.out;simp;omega) ?_)
   intro v9 w9 hown9 hgrow9 hnil9 hloc9
   have f9:Fr (Value.slice ka acc.length kc).ownBlock.toList w11 w9:=((Fr.refl _ _).alloc _).trans ((Fr.ofGrown hgrow9).sub (fun k hk=>.inl hk))
   have kr9:KR B w F11 w11 (.slice ka acc.length kc) acc:=⟨o0_11,oi0_11,fun k hk=>z0.out k hk⟩
   have h9:=h11.fr f9 (fun k hk=>kr9.ni k (by simpa using hk))
   have k9:=kr9.snoc t11.f.size (fun j hj=>(h11.fb j hj).2) hown9 (by simpa using hloc9)
   have t9:Tr F w F11 w9:=row_tr t11 f9 (fun k hk=>kr9.lo k (by simpa using hk))
   have o9:=k9.on
   have ny9:=k9.ni
   have z9:Hid (∀ k,v9.ownBlock=some k→w.heap.size≤k):=k9.lo
   clear hown9 hgrow9 hnil9 hloc9 kr9 k9
   obtain⟨g',hgg,hcom,hend⟩:=listedL_step HP.out
   clear HP
   subst hgg
   have HC:Hid (nx ts (j11) = [44]→_):=hcom
   have HE:Hid (¬ nx ts (j11) = [44]→_):=hend
   clear hcom hend
   obtain⟨va,vc,hv9,_⟩:=own_slice o9
   simp only[List.length_append,List.length_cons,List.length_nil,Nat.zero_add] at hv9
   subst hv9
   by_cases e5:nx ts (j11) = [41]
   ·have hP:=HE.out (by rw[e5];decide)
    rw[wantR_yes e5] at hP
    cases hP
    have q5:=hT.more q11 (show nx ts (j11)≠[] by rw[e5];decide)
    have C5:=rtake_yes h9 K [41] (by unfold Sg;decide) e5 q5
    clear e5 HC HE
    go_wp2_with fail
    refine C5.mono ?_
    rintro e w35 ⟨rfl,h35,f35⟩
    have s35:=Tr.of f35
    have o35:=own_fr o9 f35 (fun k hk=>ny9 k hk)
    go_wp2
    go_ret
    exact⟨_,_,rfl,o35,fun k hk=>⟨ny9 k hk,z9.out k hk⟩,h35,t9.trans s35⟩
   ·have C5:=rtake_no h9 K [41] (by unfold Sg;decide) e5
    have E5:Hid (¬ nx ts (j11) = [41]):=e5
    clear e5
    go_wp2_with fail
    refine C5.mono ?_
    rintro e w35 ⟨rfl,f35⟩
    clear C5
    have h35:=h9.fr f35 (by simp)
    have t35:=t9.trans (Tr.of0 f35)
    have o0_35:=own_fr o9 f35 (by simp)
    by_cases e6:nx ts (j11) = [44]
    ·have HP:Hid (_=some r):=HC.out e6
     have q36:=hT.more q11 (show nx ts (j11)≠[] by rw[e6];decide)
     have C6:=rwant_yes h35 K [44] (by unfold Sg;decide) e6 q36
     clear e6 HC HE
     go_wp2_with fail
     refine C6.mono ?_
     rintro e w36 ⟨rfl,h36,f36⟩
     clear C6
     have s36:=Tr.of f36
     have t36:=t35.trans s36
     have o0_36:=own_fr o0_35 f36 (fun k hk=>ny9 k hk)
     have oi0_36:∀ k,((Value.slice va (acc.length+1) vc)).ownBlock=some k→k∉F11:=fun k hk=>Tr.notin s36 (ny9 k hk) (o0_35.lt k hk).2
     have h36:RS ts B rb F11 (j11+1) n11 w36:=h36
     have q36:j11+1<ts.length:=q36
     have HM9:Hid (measR ts rb w36=ts.length-(j11+1)+1):=h36.meas
     go_wp2
     go_roundw
     case rel=>exact .inl ⟨g',acc++[m11],_,_,_,by have:=HG.out;omega,h36,⟨o0_36,oi0_36,fun k hk=>z9.out k hk⟩,t36,by have:=B11.out;have:=hbd.out;unfold Hid;simp;omega,HP⟩
     case measure=>have e2:=HPI.out;have e3:=HM9.out;have:=B11.out;have:=q36;omega
    ·have hP:=HE.out e6
     rw[wantR_no E5.out] at hP
     cases hP
     have C6:=rwant_no h35 K [44] (by unfold Sg;decide) e6
     clear e6 HC HE
     go_wp2_with fail
     refine C6.mono ?_
     rintro e w36 ⟨rfl,hb36,f36⟩
     clear C6
     have fe36:=t35.ends f36
     have HM9:Hid (measR ts rb w36=0):=hb36.meas
     go_wp2
     go_roundw
     case rel=>exact .inr ⟨_,rfl,hb36,fe36⟩
     case measure=>have e2:=HPI.out;have e3:=HM9.out;omega
theorem rhyp_all {ts:List Tok} {B rb:Nat} (hT:Toks ts) (K:KT ts) : ∀ f,RHyp ts B rb f:=by
 intro f
 induction f with
 | zero =>
   intro g nt i ns w F r hg h0 hp hn hP
   obtain rfl:g=0:=by omega
   simp[P] at hP
 | succ f ih =>
   intro g nt i ns w F r hg h0 hp hn hP
   rcases Nat.lt_or_ge g (f+1) with hlt | hge
   ·exact ih g nt i ns w F r (by omega) h0 hp hn hP
   ·obtain rfl:g=f+1:=by omega
    cases nt with
    | decl=>exact r_decl hT K ih h0 hn hP
    | first=>exact r_first hT K ih h0 hn hP
    | block pl=>exact r_block hT K ih h0 hn hP
    | stmt=>exact r_stmt hT K ih h0 hn hP
    | setOrDo=>exact r_setOrDo hT K ih h0 trivial hn hP
    | expr=>exact r_expr hT K ih h0 trivial hn hP
    | chain l=>exact r_chain hT K ih h0 hp.2 hn hP
    | signed=>exact r_signed hT K ih h0 hn hP
    | back=>exact r_back hT K ih h0 hn hP
    | listed thing c =>
      cases thing with
      | false=>exact r_names hT K ih h0 hn hP
      | true =>
        intro hc
        subst hc
        exact r_exprs hT K ih h0 hn hP rfl
    | _=>trivial
def KB (ts:List Tok) : Prop:=∀ i,i<ts.length→(tk ts i).kind≠3→∀ q,stepO (tk ts i).text q=q
def NestV:Option Nat→Value
 | none=>.int .i64 (-1)
 | some p=>.int .i64 (p:Nat)
set_option maxHeartbeats 1000000 in
theorem nest_any {ts:List Tok} {tg tc:Nat} {w:World} (hR:TRow w tg ts) (htl:ts.length≤200001) (htc:ts.length≤tc) (hK:KB ts) :
 Calls Tryz.prog 32 #[.slice (some ⟨tg,0,none⟩) ts.length tc] w fun e w'=>e = .returned (NestV (tooO ts 0))∧Fr [] w w' := by
 have HR:Hid (TRow w tg ts):=hR
 have HK:Hid (KB ts):=hK
 clear hR hK
 go_enter Tryz.func32,Tryz.ntmps32
 go_wp2
 go_loopw [3,8] (fun o i wr=>∃ p q:Nat,p≤ts.length∧i = .int .i64 p∧o = .int .i64 q∧q≤150∧Fr [] w wr∧Hid (tooO (ts.drop p) q=tooO ts 0)) (fun _ i _=>ts.length-(intOf i).toNat)
 case atStart=>exact⟨0,0,Nat.zero_le _,rfl,rfl,by omega,Fr.refl _ _,rfl⟩
 case round =>
  obtain⟨p,q,hp,rfl,rfl,hq,fw,HE⟩:=hrel
  by_cases hlt:p<ts.length
  ·have hRr:=HR.out.fr fw (by simp)
   have c0:=hRr.cell hlt (j:=0) (by omega) (u:=.int .i64 ((tk ts p).kind:Nat)) rfl
   have c1:=hRr.cell hlt (j:=1) (by omega) (u:=.string ⟨(tk ts p).text.toArray⟩) rfl
   have c2:=hRr.cell hlt (j:=2) (by omega) (u:=.int .i64 ((tk ts p).frm:Nat)) rfl
   have c3:=hRr.cell hlt (j:=3) (by omega) (u:=.int .i64 ((tk ts p).to:Nat)) rfl
   have c4:=hRr.cell hlt (j:=4) (by omega) (u:=.int .i64 ((tk ts p).n:Nat)) rfl
   simp only[Nat.add_zero] at c0
   have HS:Hid (tooO ts 0=if 150<stepO (tk ts p).text q then some (tk ts p).frm else tooO (ts.drop (p+1)) (stepO (tk ts p).text q)):=HE.out.symm.trans (tooO_drop hlt)
   have HKp:Hid ((tk ts p).kind≠3→∀ q,stepO (tk ts p).text q=q):=HK.out p hlt
   generalize tk ts p=t at *
   clear hRr HE
   have hl2:(p:Int)<(ts.length:Int):=by omega
   by_cases k3:t.kind=3
   rotate_left
   ·have hk:(((t.kind:Nat) : Int) != 3)=true:=by simp;omega
    have HO:Hid (stepO t.text q=q):=HKp.out k3 q
    have hm:(q:Int)≤150:=by omega
    clear k3
    go_wp2
    go_roundw
    case rel=>exact⟨p+1,q,by omega,by go_num,rfl,by omega,fw.alloc _,by unfold Hid;have e:=HS.out;rw[HO.out,if_neg (by omega)] at e;exact e.symm⟩
    case measure=>simp[intOf];omega
   have hk:(((t.kind:Nat) : Int) != 3)=false:=by simp;omega
   clear k3 HKp
   cases h40:(t.text == [40]) with
   | true =>
     have y40:t.text = [40]:=eq_of_beq h40
     have HO:Hid (stepO t.text q=q+1):=by unfold Hid stepO;rw[if_pos (by simp[y40])]
     clear y40
     by_cases h150:(q:Int)+1≤150
     ·go_wp2
      go_roundw
      case rel=>exact⟨p+1,q+1,by omega,by go_num,by go_num,by omega,fw.alloc _,by unfold Hid;have e:=HS.out;rw[HO.out,if_neg (by omega)] at e;exact e.symm⟩
      case measure=>simp[intOf];omega
     ·have h151:(150:Int)<(q:Int)+1:=by omega
      go_wp2
      have HV:Hid (tooO ts 0=some t.frm):=by unfold Hid;have e:=HS.out;rw[HO.out,if_pos (by omega)] at e;exact e
      go_ret
      refine⟨?_,fw.alloc _⟩
      rw[HV.out]
      rfl
   | false =>
     cases h91:(t.text == [91]) with
     | true =>
       have x40:¬ t.text = [40]:=fun e=>by rw[e] at h40;exact absurd h40 (by decide)
       have y91:t.text = [91]:=eq_of_beq h91
       have HO:Hid (stepO t.text q=q+1):=by unfold Hid stepO;rw[if_pos (by simp[y91])]
       clear x40 y91
       by_cases h150:(q:Int)+1≤150
       ·go_wp2
        go_roundw
        case rel=>exact⟨p+1,q+1,by omega,by go_num,by go_num,by omega,fw.alloc _,by unfold Hid;have e:=HS.out;rw[HO.out,if_neg (by omega)] at e;exact e.symm⟩
        case measure=>simp[intOf];omega
       ·have h151:(150:Int)<(q:Int)+1:=by omega
        go_wp2
        have HV:Hid (tooO ts 0=some t.frm):=by unfold Hid;have e:=HS.out;rw[HO.out,if_pos (by omega)] at e;exact e
        go_ret
        refine⟨?_,fw.alloc _⟩
        rw[HV.out]
        rfl
     | false =>
       cases h123:(t.text == [123]) with
       | true =>
         have x40:¬ t.text = [40]:=fun e=>by rw[e] at h40;exact absurd h40 (by decide)
         have x91:¬ t.text = [91]:=fun e=>by rw[e] at h91;exact absurd h91 (by decide)
         have y123:t.text = [123]:=eq_of_beq h123
         have HO:Hid (stepO t.text q=q+1):=by unfold Hid stepO;rw[if_pos (by simp[y123])]
         clear x40 x91 y123
         by_cases h150:(q:Int)+1≤150
         ·go_wp2
          go_roundw
          case rel=>exact⟨p+1,q+1,by omega,by go_num,by go_num,by omega,fw.alloc _,by unfold Hid;have e:=HS.out;rw[HO.out,if_neg (by omega)] at e;exact e.symm⟩
          case measure=>simp[intOf];omega
         ·have h151:(150:Int)<(q:Int)+1:=by omega
          go_wp2
          have HV:Hid (tooO ts 0=some t.frm):=by unfold Hid;have e:=HS.out;rw[HO.out,if_pos (by omega)] at e;exact e
          go_ret
          refine⟨?_,fw.alloc _⟩
          rw[HV.out]
          rfl
       | false =>
         cases h41:(t.text == [41]) with
         | true =>
           have x40:¬ t.text = [40]:=fun e=>by rw[e] at h40;exact absurd h40 (by decide)
           have x91:¬ t.text = [91]:=fun e=>by rw[e] at h91;exact absurd h91 (by decide)
           have x123:¬ t.text = [123]:=fun e=>by rw[e] at h123;exact absurd h123 (by decide)
           have y41:t.text = [41]:=eq_of_beq h41
           have HO:Hid (stepO t.text q=q-1):=by unfold Hid stepO;rw[if_neg (by simp[y41]),if_pos (by simp[y41])]
           clear x40 x91 x123 y41
           by_cases hq0:(0:Int)<(q:Int)
           ·have hm:(q:Int)≤150:=by omega
            go_wp2
            go_roundw
            case rel=>exact⟨p+1,q-1,by omega,by go_num,by congr 1;omega,by omega,fw.alloc _,by unfold Hid;have e:=HS.out;rw[HO.out,if_neg (by omega)] at e;exact e.symm⟩
            case measure=>simp[intOf];omega
           ·have hm:(q:Int)≤0:=by omega
            go_wp2
            go_roundw
            case rel=>exact⟨p+1,q-1,by omega,by go_num,by congr 1;omega,by omega,fw.alloc _,by unfold Hid;have e:=HS.out;rw[HO.out,if_neg (by omega)] at e;exact e.symm⟩
            case measure=>simp[intOf];omega
         | false =>
           cases h93:(t.text == [93]) with
           | true =>
             have x40:¬ t.text = [40]:=fun e=>by rw[e] at h40;exact absurd h40 (by decide)
             have x91:¬ t.text = [91]:=fun e=>by rw[e] at h91;exact absurd h91 (by decide)
             have x123:¬ t.text = [123]:=fun e=>by rw[e] at h123;exact absurd h123 (by decide)
             have x41:¬ t.text = [41]:=fun e=>by rw[e] at h41;exact absurd h41 (by decide)
             have y93:t.text = [93]:=eq_of_beq h93
             have HO:Hid (stepO t.text q=q-1):=by unfold Hid stepO;rw[if_neg (by simp[y93]),if_pos (by simp[y93])]
             clear x40 x91 x123 x41 y93
             by_cases hq0:(0:Int)<(q:Int)
             ·have hm:(q:Int)≤150:=by omega
              go_wp2
              go_roundw
              case rel=>exact⟨p+1,q-1,by omega,by go_num,by congr 1;omega,by omega,fw.alloc _,by unfold Hid;have e:=HS.out;rw[HO.out,if_neg (by omega)] at e;exact e.symm⟩
              case measure=>simp[intOf];omega
             ·have hm:(q:Int)≤0:=by omega
              go_wp2
              go_roundw
              case rel=>exact⟨p+1,q-1,by omega,by go_num,by congr 1;omega,by omega,fw.alloc _,by unfold Hid;have e:=HS.out;rw[HO.out,if_neg (by omega)] at e;exact e.symm⟩
              case measure=>simp[intOf];omega
           | false =>
             cases h125:(t.text == [125]) with
             | true =>
               have x40:¬ t.text = [40]:=fun e=>by rw[e] at h40;exact absurd h40 (by decide)
               have x91:¬ t.text = [91]:=fun e=>by rw[e] at h91;exact absurd h91 (by decide)
               have x123:¬ t.text = [123]:=fun e=>by rw[e] at h123;exact absurd h123 (by decide)
               have x41:¬ t.text = [41]:=fun e=>by rw[e] at h41;exact absurd h41 (by decide)
               have x93:¬ t.text = [93]:=fun e=>by rw[e] at h93;exact absurd h93 (by decide)
               have y125:t.text = [125]:=eq_of_beq h125
               have HO:Hid (stepO t.text q=q-1):=by unfold Hid stepO;rw[if_neg (by simp[y125]),if_pos (by simp[y125])]
               clear x40 x91 x123 x41 x93 y125
               by_cases hq0:(0:Int)<(q:Int)
               ·have hm:(q:Int)≤150:=by omega
                go_wp2
                go_roundw
                case rel=>exact⟨p+1,q-1,by omega,by go_num,by congr 1;omega,by omega,fw.alloc _,by unfold Hid;have e:=HS.out;rw[HO.out,if_neg (by omega)] at e;exact e.symm⟩
                case measure=>simp[intOf];omega
               ·have hm:(q:Int)≤0:=by omega
                go_wp2
                go_roundw
                case rel=>exact⟨p+1,q-1,by omega,by go_num,by congr 1;omega,by omega,fw.alloc _,by unfold Hid;have e:=HS.out;rw[HO.out,if_neg (by omega)] at e;exact e.symm⟩
                case measure=>simp[intOf];omega
             | false =>
               have x40:¬ t.text = [40]:=fun e=>by rw[e] at h40;exact absurd h40 (by decide)
               have x91:¬ t.text = [91]:=fun e=>by rw[e] at h91;exact absurd h91 (by decide)
               have x123:¬ t.text = [123]:=fun e=>by rw[e] at h123;exact absurd h123 (by decide)
               have x41:¬ t.text = [41]:=fun e=>by rw[e] at h41;exact absurd h41 (by decide)
               have x93:¬ t.text = [93]:=fun e=>by rw[e] at h93;exact absurd h93 (by decide)
               have x125:¬ t.text = [125]:=fun e=>by rw[e] at h125;exact absurd h125 (by decide)
               have HO:Hid (stepO t.text q=q):=by unfold Hid stepO;rw[if_neg (by simp[x40,x91,x123]),if_neg (by simp[x41,x93,x125])]
               clear x40 x91 x123 x41 x93 x125
               have hm:(q:Int)≤150:=by omega
               go_wp2
               go_roundw
               case rel=>exact⟨p+1,q,by omega,by go_num,rfl,by omega,fw.alloc _,by unfold Hid;have e:=HS.out;rw[HO.out,if_neg (by omega)] at e;exact e.symm⟩
               case measure=>simp[intOf];omega
  ·have hpe:p=ts.length:=by omega
   subst hpe
   have HV:Hid (tooO ts 0=none):=by unfold Hid;rw[← HE.out,List.drop_of_length_le (Nat.le_refl _)];rfl
   have hl2:¬ ((ts.length:Int)<(ts.length:Int)):=by omega
   go_wp2
   go_ret
   refine⟨?_,fw⟩
   rw[HV.out]
   rfl
end Go.Proofs.YtnmfcaahdeddnaaGreatDoor
