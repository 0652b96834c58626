/-
  Parts of the proof; conditions: as each says.
-/
import Derived.Lib.AppendIntMem
import Derived.Test.YtnmfcaahdeddnaaGreatDoorMgEGMK
import Derived.Test.YtnmfcaahdeddnaaGreatDoorMgHDMG
set_option maxRecDepth 100000
namespace Go.Proofs.YtnmfcaahdeddnaaGreatDoor
open Go.RowKit Go.Shelf
set_option linter.unusedVariables false
set_option linter.unusedSimpArgs false
set_option maxHeartbeats 2000000 in
theorem c_func {ts:List Tok} {B pb:Nat} (hT:Toks ts) {f i:Nat} {ns:List PN} {w:World} {F:List Nat} {r:Except Nat (List Nat×Nat×List PN)} (H:Hyp ts B pb f) (h0:PS ts B pb F i ns w) (T0:Tabs w) (hp:preN ts i ns (.func)) (hn:ns.length≤2*i+1) (hP:P ts (f+1) (.func) i ns=some r) : Ctr ts B pb F w r (.func):=by
 have hi:=h0.ti
 have HTL:Hid (ts.length≤200001):=h0.tl
 simp only[P] at hP
 have HP:Hid (_=some r):=hP
 clear hP
 simp only[Ctr,ptr]
 have t0:=Tr.refl F w
 have HF0:Hid (∀ k∈F,k<w.heap.size):=fun k hk=>(h0.fb k hk).2
 have HN:Hid (ns.length≤2*i+1):=hn
 clear hn
 obtain⟨i3,hi3,hz,hz1,hby⟩:=info_parts info3
 have q1:=hT.more hi hp
 have C1:=pass_any h0 q1
 unfold tokA at C1
 go_enter Tryz.func108,Tryz.ntmps108
 go_wp2_with fail
 refine C1.mono ?_
 rintro e w1 ⟨rfl,h1,f1⟩
 clear C1
 have s1:=Tr.of f1
 have t1:=t0.trans s1
 have T1:=h0.tabs T0 f1
 have h1:PS ts B pb F (i+1) ns w1:=h1
 have q1:i+1<ts.length:=q1
 have fl1:=fld2 ((tk ts (i)).kind:Nat) ((tk ts (i)).frm:Nat) ((tk ts (i)).to:Nat) ((tk ts (i)).n:Nat) ⟨(tk ts (i)).text.toArray⟩ w1
 by_cases e2:nx ts (i+1)=nmB
 rotate_left
 ·have hP:=HP.out
  rw[wantR_no e2] at hP
  have C2:=want_no h1 nmB e2
  unfold thrown at C2
  unfold nmB at C2
  cases hP
  go_wp2_with fail
  refine C2.mono ?_
  rintro e w2 ⟨rfl,f2⟩
  exact⟨rfl,rfl,t1.ends (f2.sub (by simp))⟩
 have q2:=hT.more q1 (show nx ts (i+1)≠[] by rw[e2];decide)
 have hP:=HP.out
 rw[wantR_yes e2] at hP
 have HP:Hid (_=some r):=hP
 clear hP
 have C2:=want_yes h1 nmB e2 q2
 unfold tokA at C2
 unfold nmB at C2
 clear e2
 go_wp2_with fail
 refine C2.mono ?_
 rintro e w2 ⟨rfl,h2,f2⟩
 clear C2
 have s2:=Tr.of f2
 have t2:=t1.trans s2
 have T2:=h1.tabs T1 f2
 have h2:PS ts B pb F (i+2) ns w2:=h2
 have q2:i+2<ts.length:=q2
 have g3:Fr [] w2 (w2.alloc (.cells #[.int .i64 ((tk ts (i+1)).kind:Nat),.string ⟨(tk ts (i+1)).text.toArray⟩,.int .i64 ((tk ts (i+1)).frm:Nat),.int .i64 ((tk ts (i+1)).to:Nat),.int .i64 ((tk ts (i+1)).n:Nat)] 82)):=(Fr.refl _ _).alloc _
 have v3:=TB.new w2 (.int .i64 ((tk ts (i+1)).kind:Nat)) (.string ⟨(tk ts (i+1)).text.toArray⟩) (.int .i64 ((tk ts (i+1)).frm:Nat)) (.int .i64 ((tk ts (i+1)).to:Nat)) (.int .i64 ((tk ts (i+1)).n:Nat))
 have ni3:w2.heap.size∉F:=fun hm=>by have:=(h2.fb _ hm).2;omega
 have h3:=h2.fr g3 (by simp)
 have t3:=t2.trans (Tr.of0 g3)
 have T3:=T2.fr g3 (by simp)
 by_cases e4:nx ts (i+2) = [40]
 rotate_left
 ·have hP:=HP.out
  rw[wantR_no e4] at hP
  have C4:=want_no h3 [40] e4
  unfold thrown at C4
  cases hP
  go_wp2_with fail
  refine C4.mono ?_
  rintro e w4 ⟨rfl,f4⟩
  exact⟨rfl,rfl,t3.ends (f4.sub (by simp))⟩
 have q4:=hT.more q2 (show nx ts (i+2)≠[] by rw[e4];decide)
 have hP:=HP.out
 rw[wantR_yes e4] at hP
 have HP:Hid (_=some r):=hP
 clear hP
 have C4:=want_yes h3 [40] e4 q4
 unfold tokA at C4
 clear e4
 go_wp2_with fail
 refine C4.mono ?_
 rintro e w4 ⟨rfl,h4,f4⟩
 clear C4
 have s4:=Tr.of f4
 have t4:=t3.trans s4
 have T4:=h3.tabs T3 f4
 have u0_4:=v3.fr f4 ni3
 have ni0_4:=Tr.notin s4 ni3 v3.lt
 have h4:PS ts B pb F (i+3) ns w4:=h4
 have q4:i+3<ts.length:=q4
 rcases bindR_some HP.out with ⟨er,hr,he⟩ | ⟨v5,j5,n5,hr,hP⟩
 ·subst he
  have C5:=H f (.listed false [41]) _ _ w4 _ _ (Nat.le_refl _) h4 T4 (by simp[preN]) (by have:=HN.out;omega) hr
  simp only[Ctr,ptr,if_true,Bool.false_eq_true,if_false] at C5
  go_wp2_with fail
  refine C5.mono ?_
  rintro e w5 ⟨rfl,f5⟩
  exact⟨rfl,rfl,t4.ends f5⟩
 obtain⟨o5a,o5b,o5c,o5d,_⟩:=run_ok hT (nt:=.listed false [41]) (ns:=ns) h4.ti (by simp[preN]) hr
 simp only[consN,slack] at o5a o5d
 have C5:=H f (.listed false [41]) _ _ w4 _ _ (Nat.le_refl _) h4 T4 (by simp[preN]) (by have:=HN.out;omega) hr
 simp only[Ctr,ptr,if_true,Bool.false_eq_true,if_false] at C5
 have HP:Hid (_=some r):=hP
 have B5:Hid (n5.length+5≤2*j5+0∧i<j5):=by have:=HN.out;unfold Hid;omega
 have q5:=o5b
 have LN5:Hid (v5.length≤j5∧j5<ts.length):=⟨listed_len hT false [41] (by decide) h4.ti hr,o5b⟩
 clear hP hr o5a o5b o5c o5d
 go_wp2_with fail
 refine C5.mono ?_
 rintro e w5 ⟨x5,F5,rfl,o5,y5,h5,s5⟩
 clear C5
 have f5:=s5.f
 have z5:Hid (∀ k,(x5:Value).ownBlock=some k→w.heap.size≤k):=fun k hk=>Nat.le_trans t4.f.size (y5 k hk).2
 have ny5:∀ k,(x5:Value).ownBlock=some k→k∉F5:=fun k hk=>(y5 k hk).1
 clear y5
 have t5:=t4.trans s5
 have T5:=h4.tabs T4 f5
 have u0_5:=u0_4.fr f5 ni0_4
 have ni0_5:=Tr.notin s5 ni0_4 u0_4.lt
 rcases bindR_some HP.out with ⟨er,hr,he⟩ | ⟨v6,j6,n6,hr,hP⟩
 ·subst he
  have C6:=H f (.block 0) _ _ w5 _ _ (Nat.le_refl _) h5 T5 trivial (by have:=B5.out;omega) hr
  simp only[Ctr,ptr] at C6
  go_wp2_with fail
  refine C6.mono ?_
  rintro e w6 ⟨rfl,f6⟩
  exact⟨rfl,rfl,t5.ends f6⟩
 obtain⟨o6a,o6b,o6c,o6d,o6e⟩:=run_ok hT (nt:=.block 0) (ns:=n5) h5.ti trivial hr
 simp only[consN,slack] at o6a o6d
 obtain⟨m6,rfl,hm6⟩:=o6e rfl
 have C6:=H f (.block 0) _ _ w5 _ _ (Nat.le_refl _) h5 T5 trivial (by have:=B5.out;omega) hr
 simp only[Ctr,ptr] at C6
 have HP:Hid (_=some r):=hP
 have B6:Hid (n6.length+5≤2*j6+0∧i<j6):=by have:=B5.out;unfold Hid;omega
 have q6:=o6b
 clear hP hr o6a o6b o6c o6d o6e
 go_wp2_with fail
 refine C6.mono ?_
 rintro e w6 ⟨he,F6,h6,s6⟩
 obtain rfl:e = .returned (.int .i64 (m6:Nat)):=he
 clear C6
 have f6:=s6.f
 have t6:=t5.trans s6
 have T6:=h5.tabs T5 f6
 have u0_6:=u0_5.fr f6 ni0_5
 have ni0_6:=Tr.notin s6 ni0_5 u0_5.lt
 have o0_6:=own_fr o5 f6 (fun k hk=>ny5 k hk)
 have oi0_6:∀ k,(x5).ownBlock=some k→k∉F6:=fun k hk=>Tr.notin s6 (ny5 k hk) (o5.lt k hk).2
 obtain⟨xa,xc,hx,_⟩:=own_slice o0_6
 subst hx
 have KR0:KR B w F6 w6 (.slice xa v5.length xc) v5:=⟨o0_6,oi0_6,z5.out⟩
 have HB9:Hid (B≤w6.heap.size):=by have:=h6.fb pb h6.pf;unfold Hid;omega
 go_wp2_with (at_builtin;refine wpList_append_own_at _ rfl _ _ 26 rfl B 3 i3 (.int .i64 0) 1 8 under35 hi3 hz hz1 hby rfl (by decide) (.slice xa v5.length xc) v5.length (v5.map (fun k=>Value.int .i64 (k:Nat))) rfl (KR0.on.alloc _) ⟨w6.heap.size,0,none⟩ 1 1 [.int .i64 (m6:Nat)] rfl rfl (one_new w6 _) (by simp[Value.oneCell']) (by have:=LN5.out;have:=HTL.out;unfold maxLen;omega) (by have:=LN5.out;have:=HTL.out;omega) (by have:=HB9.out;simp;omega) ?_)
 intro y9 w9 hown9 hgrow9 hnil9 hloc9
 have f9:Fr (Value.slice xa v5.length xc).ownBlock.toList w6 w9:=((Fr.refl _ _).alloc _).trans ((Fr.ofGrown hgrow9).sub (fun k hk=>.inl hk))
 have hni9:∀ k∈(Value.slice xa v5.length xc).ownBlock.toList,k∉F6:=fun k hk=>KR0.ni k (by simpa using hk)
 have h9:=h6.fr f9 hni9
 have k9:=KR0.snoc (m:=m6) t6.f.size (fun k hk=>(h6.fb k hk).2) hown9 (by simpa using hloc9)
 have t9:Tr F w F6 w9:=row_tr t6 f9 (fun k hk=>KR0.lo k (by simpa using hk))
 have u9:=u0_6.fr f9 (fun hm=>by have:=own_ne KR0.on u0_6 (by decide);exact this (by simpa using hm))
 have on9:=k9.on
 have ni9:=k9.ni
 have z9:Hid (∀ k,(y9:Value).ownBlock=some k→w.heap.size≤k):=k9.lo
 clear hgrow9 hnil9 hloc9 hown9 KR0 o0_6
 have hP:=HP.out
 cases hP
 have a0:=u9.c1
 have b0:=u9.c2
 obtain⟨za,zc,hx,_⟩:=own_slice on9
 simp only[List.length_append,List.length_cons,List.length_nil,Nat.zero_add] at hx
 have KV0:=ON.kv on9
 have LO:∀ k∈(y9).ownBlock.toList,w.heap.size≤k:=fun k hk=>z9.out k (by simpa using hk)
 subst hx
 have CL:=lay_any h9 KV0 3 (tk ts (i+1)).text (tk ts (i+1)).frm (by have:=B6.out;have:=HTL.out;have:=q6;omega)
 go_wp2_with fail
 refine CL.mono ?_
 rintro e wz ⟨rfl,Fz,hz,fz,sz⟩
 have tz:Tr F w Fz wz:=lay_tr t9 fz sz LO
 go_wp2
 go_ret
 exact⟨rfl,Fz,hz,tz⟩
theorem fmt_fr {w w' : World} {k:Nat} {os:Array Obj} (h:w' = Go.Sort.grow (w.drewN k) os) : Fr [] w w' := by
 rw[h]
 exact Fr.ofBelow (Lib.below_grow _ w (Nat.le_refl _) k os)
theorem itoa_nat (n:Nat) : Lib.itoa (n:Int)=Lib.decDigits n:=by
 unfold Lib.itoa
 rw[if_neg (by omega)]
 simp
theorem fmt_any (n:Nat) (hn:n≤9223372036854775807) (w:World) (T:Tabs w) : Calls Tryz.prog 165 #[.int .i64 (n:Nat),.int .i64 10] w fun e w'=>e = .returned (.string ⟨(Lib.decDigits n).toArray⟩)∧Fr [] w w' := by
 have C:=Go.Proofs.Tryz.internal_strconv_FormatInt_10 (n:Int) (by omega) (by omega) w T.pow
 rw[itoa_nat] at C
 go_enter Tryz.func165,Tryz.ntmps165
 go_wp2_with fail
 refine C.mono ?_
 rintro e w1 ⟨rfl,k,os,hw⟩
 have f1:=fmt_fr hw
 clear hw
 go_wp2
 go_ret
 exact⟨rfl,f1⟩
set_option maxHeartbeats 2000000 in
theorem c_number {ts:List Tok} {B pb:Nat} (hT:Toks ts) {f i:Nat} {ns:List PN} {w:World} {F:List Nat} {r:Except Nat (List Nat×Nat×List PN)} (h0:PS ts B pb F i ns w) (T0:Tabs w) (hp:preN ts i ns .number) (hn:ns.length≤2*i+1) (hP:P ts (f+1) .number i ns=some r) : Ctr ts B pb F w r .number:=by
 have hi:=h0.ti
 have HTL:Hid (ts.length≤200001):=h0.tl
 simp only[P] at hP
 simp only[Ctr,ptr]
 cases hP
 have q1:=hT.more hi hp
 have C1:=pass_any h0 q1
 unfold tokA at C1
 have HN:Hid (ns.length≤2*i+1):=hn
 have HNM:Hid ((tk ts i).n≤9223372036854775807):=hT.num i
 clear hn hp
 go_enter Tryz.func116,Tryz.ntmps116
 go_wp2_with fail
 refine C1.mono ?_
 rintro e w1 ⟨rfl,h1,f1⟩
 clear C1
 have gA:Fr [] w1 (w1.alloc (.cells #[.int .i64 ((tk ts i).kind:Nat),.string ⟨(tk ts i).text.toArray⟩,.int .i64 ((tk ts i).frm:Nat),.int .i64 ((tk ts i).to:Nat),.int .i64 ((tk ts i).n:Nat)] 82)):=(Fr.refl _ _).alloc _
 have uA:=TB.new w1 (.int .i64 ((tk ts i).kind:Nat)) (.string ⟨(tk ts i).text.toArray⟩) (.int .i64 ((tk ts i).frm:Nat)) (.int .i64 ((tk ts i).to:Nat)) (.int .i64 ((tk ts i).n:Nat))
 have niA:w1.heap.size∉F:=fun hm=>by have:=(h1.fb _ hm).2;omega
 have hA:=h1.fr gA (by simp)
 have tA:=((Tr.refl F w).trans (Tr.of f1)).trans (Tr.of0 gA)
 have TA:=(h0.tabs T0 f1).fr gA (by simp)
 clear f1 h1
 go_wp2
 generalize w1.alloc (.cells #[.int .i64 ((tk ts i).kind:Nat),.string ⟨(tk ts i).text.toArray⟩,.int .i64 ((tk ts i).frm:Nat),.int .i64 ((tk ts i).to:Nat),.int .i64 ((tk ts i).n:Nat)] 82)=wA at *
 generalize w1.heap.size=bA at *
 have r2:∀ w',Fr F wA w'→w'.cell? ⟨bA,2,none⟩=_:=fun w' f=>(uA.fr f niA).c2
 have r4:∀ w',Fr F wA w'→w'.cell? ⟨bA,4,none⟩=_:=fun w' f=>(uA.fr f niA).c4
 have fA:Fr F wA wA:=Fr.refl _ _
 have HLN:Hid (ns.length+1≤1000000):=by have:=HN.out;have:=HTL.out;unfold Hid;omega
 clear gA
 go_region_held3 (fun w'=>Fr F wA w') (with_reducible (first | assumption | (refine Fr.drew ?_;assumption)))
  (first
   | (go_at_call 165;refine (fmt_any (tk ts i).n HNM.out _ (TA.fr (S:=[]) ((Fr.refl _ _).drew) (by simp))).mono ?_;rintro e w3 ⟨rfl,f3⟩;have f03:Fr [] wA w3:=((Fr.refl [] wA).drew).trans f3;have fF3:Fr F wA w3:=f03.sub (by simp))
   | (go_at_call 130;refine (lay_any (hA.fr f03 (by simp)) (KV.nil B _) 15 (Lib.decDigits (tk ts i).n) (tk ts i).frm HLN.out).mono ?_;rintro e wz ⟨rfl,Fz,hz,fz,sz⟩;have fFz:Fr F wA wz:=(fF3.trans fz)))
 have tz:Tr F w Fz wz:=lay_tr (G:=[]) (tA.trans (Tr.of0 f03)) fz sz (by simp)
 go_wp2
 go_ret
 exact⟨rfl,Fz,hz,tz⟩
end Go.Proofs.YtnmfcaahdeddnaaGreatDoor
namespace Go.Proofs.YtnmfcaahdeddnaaGreatDoor
open Go.RowKit Go.Shelf
attribute [local go_sem] Oper.semAt_some store_func
set_option linter.unusedVariables false
set_option linter.unusedSimpArgs false
theorem backT_any (a:Option Addr) (n c:Nat) (w:World) :
 Calls Tryz.prog 227 #[.slice a n c] w fun e w'=>e = .returned (.func (.func 232) #[] #[.pointer (some ⟨w.heap.size,0,none⟩)])∧w' = w.alloc (.cells #[.slice a n c] 74):=by
 go_enter Tryz.func227,Tryz.ntmps227
 go_wp2
 go_ret
 exact⟨rfl,rfl⟩
def TC (W:World) (a:Option Addr) (acc:List Tok) : Prop:=∀ (p:Nat) (t:Tok),acc[p]? = some t→∃ g,a=some ⟨g,0,none⟩∧W.cell? ⟨g,p*5,none⟩=some (.int .i64 (t.kind:Nat))∧W.cell? ⟨g,p*5+1,none⟩=some (.string ⟨t.text.toArray⟩)∧W.cell? ⟨g,p*5+2,none⟩=some (.int .i64 (t.frm:Nat))∧W.cell? ⟨g,p*5+3,none⟩=some (.int .i64 (t.to:Nat))∧W.cell? ⟨g,p*5+4,none⟩=some (.int .i64 (t.n:Nat))
set_option maxHeartbeats 1000000 in
theorem backT1 (G:Nat→World→Prop) (bx l:Nat) (a:Option Addr) (c:Nat) (acc:List Tok) (hm:acc.length≤200001)
 (hK:∀ j W,G j W→W.heap[bx]? = some (.cells #[.slice a acc.length c] 74 (0,0))∧TC W a acc)
 (hY:∀ j t W,acc.reverse[j]? = some t→G j W→YieldAt Fence.wide 0 Tryz.prog l #[.int .i64 ((acc.length-1-j:Nat) : Int),.agg (tokA t)] W (fun e W'=>e = .returned (.bool true)∧G (j+1) W'))
 (W:World) (h0:G 0 W) :
 CallsIn Fence.wide 0 Tryz.prog 232 #[.func (.yield l) #[] #[],.pointer (some ⟨bx,0,none⟩)] W fun e W'=>(∃ v,e = .returned v)∧G acc.length W' := by
 refine callsIn_of_wp Tryz.func232 rfl trivial ?_ rfl
 simp only[Tryz.ntmps232,List.size_toArray,List.length_cons,List.length_nil,Nat.reduceAdd,Nat.reduceSub,Array.replicate_succ,Array.replicate_zero,List.push_toArray,List.append_toArray,List.nil_append,List.cons_append]
 have cb:=at_cells (hK 0 W h0).1 0 rfl
 have hm' : (acc.length:Int)≤200001:=by omega
 gi_wp2
 gi_loopw [3] (fun i wr=>∃ j:Nat,j≤acc.length∧i = .int .i64 ((acc.length:Int)-1-j)∧G j wr) (fun i _=>(intOf i+1).toNat)
 case atStart=>exact⟨0,Nat.zero_le _,by simp,h0⟩
 case round =>
  obtain⟨j,hj,rfl,hg⟩:=hrel
  obtain⟨hb,hk⟩:=hK j wr hg
  have cb2:=at_cells hb 0 rfl
  by_cases hlt:j<acc.length
  ·have e1:(acc.length:Int)-1-j=((acc.length-1-j:Nat) : Int):=by omega
   have hx:acc[acc.length-1-j]? = some (acc[acc.length-1-j]'(by omega)):=List.getElem?_eq_getElem _
   have hr:acc.reverse[j]? = some (acc[acc.length-1-j]'(by omega)):=by rw[List.getElem?_reverse hlt];exact hx
   generalize acc[acc.length-1-j]'(by omega)=t at hx hr
   obtain⟨g,rfl,d0,d1,d2,d3,d4⟩:=hk _ t hx
   have hYY:=hY j t wr hr hg
   unfold tokA at hYY
   obtain⟨fn,tmps,assign,body,hy,hR⟩:=hYY
   rw[e1]
   have hlt2:acc.length-1-j<acc.length:=by omega
   have HQ:Hid (acc.length-1-j+j+1=acc.length):=by unfold Hid;omega
   generalize acc.length-1-j=q at *
   clear hx hr cb e1 hk
   gi_wp2
   refine⟨rfl,hR.mono ?_⟩
   rintro e W' ⟨rfl,hG'⟩
   clear hR hy
   gi_wp2
   go_roundw
   case rel=>exact⟨j+1,hlt,by have:=HQ.out;go_num,hG'⟩
   case measure=>simp[intOf]
  ·have:j=acc.length:=by omega
   subst this
   gi_wp2
   go_end0
   exact⟨⟨_,rfl⟩,hg⟩
attribute [local go_sem] Oper.semAt_some store_func
set_option linter.unusedVariables false
set_option linter.unusedSimpArgs false
structure GS (ts:List Tok) (B pb j:Nat) (F:List Nat) (w:World) (sv:Value) (acc:List Tok) (bn:Nat) (rec:LoopState→Option Code→Loop) (st:LoopState) (F' : List Nat) (n:Nat) (ns:List PN) (W:World) : Prop where
 ps:PS ts B pb F' j ns W
 tabs:Tabs W
 on:W.ownsRow B 82 5 sv acc.length (flatT acc)
 oi:∀ k,sv.ownBlock=some k→k∉F'
 b0:W.heap[w.heap.size]? = some (.cells #[.pointer (some ⟨pb,0,none⟩)] 169 (0,0))
 n0:w.heap.size∉F'
 bb:W.heap[bn]? = some (.cells #[.int .i64 (n:Nat)] 3 (0,0))
 nb:bn∉F'
 bx:W.heap[bn+1]? = some (.cells #[sv] 74 (0,0))
 nx:bn+1∉F'
 dd:W.heap[bn+1+1]? = some (.deferred (some []))
 nd:bn+1+1∉F'
 ll:W.heap[bn+1+1+1]? = some (.loop (rec st none))
 nl:bn+1+1+1∉F'
 tr:Tr F w F' W
 lo:w.heap.size<bn∧7≤w.heap.size
section
variable {ts:List Tok} {B pb j:Nat} {F:List Nat} {w:World} {sv:Value} {acc:List Tok} {bn:Nat} {rec:LoopState→Option Code→Loop} {st st' : LoopState} {F' F'' : List Nat} {n n' : Nat} {ns ns' : List PN} {W W' : World}
theorem GS.fr (h:GS ts B pb j F w sv acc bn rec st F' n ns W) (f:Fr [] W W') : GS ts B pb j F w sv acc bn rec st F' n ns W' := by
 have kp:∀ {k:Nat} {o:Obj},W.heap[k]? = some o→W'.heap[k]? = some o:=fun hk=>(f.block _ (Array.getElem?_eq_some_iff.1 hk).1 (by simp)).trans hk
 exact⟨h.ps.fr f (by simp),h.tabs.fr f (by simp),own_fr h.on f (by simp),h.oi,kp h.b0,h.n0,kp h.bb,h.nb,kp h.bx,h.nx,kp h.dd,h.nd,kp h.ll,h.nl,h.tr.trans (Tr.of0 f),h.lo⟩
theorem GS.put (h:GS ts B pb j F w sv acc bn rec st F' n ns W) : GS ts B pb j F w sv acc bn rec st' F' n ns (W.putObj (bn+1+1+1) (.loop (rec st' none))):=by
 have f:=Fr.putObj (W:=W) (l:=bn+1+1+1) (.loop (rec st' none))
 have kp:∀ {k:Nat} {o:Obj},k≠bn+1+1+1→W.heap[k]? = some o→(W.putObj (bn+1+1+1) (.loop (rec st' none))).heap[k]? = some o:=fun hk h=>(World.putObj_heap_other hk).trans h
 have hlo:=h.lo
 have hB:7≤bn+1+1+1:=by omega
 exact⟨h.ps.fr f (fun k hk=>by simp at hk;subst hk;exact h.nl),h.tabs.fr f (fun k hk=>by simp at hk;subst hk;exact hB),own_fr h.on f (fun k hk=>by simp;rintro rfl;exact own_notloop h.on h.ll (by intro c t z e;cases e) hk),h.oi,kp (by omega) h.b0,h.n0,kp (by omega) h.bb,h.nb,kp (by omega) h.bx,h.nx,kp (by omega) h.dd,h.nd,World.putObj_heap_same (Array.getElem?_eq_some_iff.1 h.ll).1,h.nl,row_tr h.tr f (fun k hk=>by simp at hk;omega),h.lo⟩
theorem GS.laid (h:GS ts B pb j F w sv acc bn rec st F' n ns W) {W2 wz:World} {Fz G:List Nat} (gb:Fr [] W W2) (hz:PS ts B pb Fz j ns' wz) (fz:Fr F' W2 wz) (sz:∀ k∈Fz,k∈F'∨k∈G∨W2.heap.size≤k) (hG:∀ k∈G,W.heap.size≤k) (m:Nat) : GS ts B pb j F w sv acc bn rec st Fz m ns' (wz.setCell ⟨bn,0,none⟩ (.int .i64 (m:Nat))):=by
 have fs:Fr [bn] wz (wz.setCell ⟨bn,0,none⟩ (.int .i64 (m:Nat))):=Fr.setCell (Fr.refl _ _) (.inl (by simp)) _
 have hlo:=h.lo
 have lt:∀ {k:Nat} {o:Obj},W.heap[k]? = some o→k<W.heap.size:=fun h=>(Array.getElem?_eq_some_iff.1 h).1
 have ni:∀ {b:Nat},b<W.heap.size→b∉F'→b∉Fz:=fun hb hn hm=>by
  rcases sz _ hm with h1 | h1 | h1
  ·exact hn h1
  ·have:=hG _ h1;omega
  ·have:=gb.size;omega
 have kz:∀ {k:Nat} {o:Obj},k∉F'→W.heap[k]? = some o→wz.heap[k]? = some o:=fun hk hh=>by
  have h2:=(gb.block _ (lt hh) (by simp)).trans hh
  exact (fz.block _ (Array.getElem?_eq_some_iff.1 h2).1 hk).trans h2
 have kp:∀ {k:Nat} {o:Obj},k≠bn→k∉F'→W.heap[k]? = some o→(wz.setCell ⟨bn,0,none⟩ (.int .i64 (m:Nat))).heap[k]? = some o:=fun hk hk2 hh=>(fs.block _ (Array.getElem?_eq_some_iff.1 (kz hk2 hh)).1 (by simpa using hk)).trans (kz hk2 hh)
 have hbn:=kz h.nb h.bb
 have T2:=h.tabs.fr gb (by simp)
 have P2:=h.ps.fr gb (by simp)
 have Tz:Tabs wz:=P2.tabs T2 fz
 have o2:=own_fr (own_fr h.on gb (by simp)) fz (fun k hk=>h.oi k hk)
 have tz:Tr F w Fz wz:=⟨(h.tr.trans (Tr.of0 gb)).ends fz,fun k hk=>by
  rcases sz k hk with h1 | h1 | h1
  ·exact h.tr.s k h1
  ·have:=hG k h1;have:=h.tr.f.size;exact .inr (by omega)
  ·have:=gb.size;have:=h.tr.f.size;exact .inr (by omega)⟩
 exact⟨hz.fr fs (fun k hk=>by simp at hk;subst hk;exact ni (lt h.bb) h.nb),Tz.fr fs (fun k hk=>by simp at hk;omega),own_fr o2 fs (fun k hk=>by simp;rintro rfl;exact own_ne o2 hbn (by decide) hk),fun k hk=>ni (h.on.lt k hk).2 (h.oi k hk),kp (by omega) h.n0 h.b0,ni (lt h.b0) h.n0,set_same hbn,ni (lt h.bb) h.nb,kp (by omega) h.nx h.bx,ni (lt h.bx) h.nx,kp (by omega) h.nd h.dd,ni (lt h.dd) h.nd,kp (by omega) h.nl h.ll,ni (lt h.ll) h.nl,row_tr tz fs (fun k hk=>by simp at hk;omega),h.lo⟩
end
structure SR (B:Nat) (w:World) (F:List Nat) (wr:World) (sv:Value) (acc:List Tok) : Prop where
 on:wr.ownsRow B 82 5 sv acc.length (flatT acc)
 ni:∀ k,sv.ownBlock=some k→k∉F
 lo:∀ k,sv.ownBlock=some k→w.heap.size≤k
theorem SR.nil (B:Nat) (w:World) (F:List Nat) (wr:World) : SR B w F wr (.slice none 0 0) []:=⟨World.ownsRow_nil _ _ _ _,fun k h=>by simp[Value.ownBlock] at h,fun k h=>by simp[Value.ownBlock] at h⟩
theorem SR.tr {B:Nat} {w:World} {F F' : List Nat} {wr wr' : World} {sv:Value} {acc:List Tok} (h:SR B w F wr sv acc) (t:Tr F wr F' wr') : SR B w F' wr' sv acc :=
 ⟨own_fr h.on t.f (fun k hk=>h.ni k hk),fun k hk=>t.notin (h.ni k hk) (h.on.lt k hk).2,h.lo⟩
theorem SR.snoc {B:Nat} {w:World} {F:List Nat} {wr w3:World} {sv v1:Value} {acc:List Tok} {t:Tok} (h:SR B w F wr sv acc) (hw:w.heap.size≤wr.heap.size) (hF:∀ k∈F,k<wr.heap.size) (ho:w3.ownsRow B 82 5 v1 (acc.length+1) (flatT acc++(tokA t).toList)) (hl:v1.ownBlock=sv.ownBlock∨v1.ownBlock=some (wr.heap.size+1)) : SR B w F w3 v1 (acc++[t]):=by
 refine⟨?_,fun k hk=>?_,fun k hk=>?_⟩
 ·rw[flatT_append,flatT_one]
  simpa using ho
 ·rcases hl with e | e
  ·exact h.ni k (by rw[← e];exact hk)
  ·rw[e] at hk
   simp at hk
   exact fun hm=>by have:=hF k hm;omega
 ·rcases hl with e | e
  ·exact h.lo k (by rw[← e];exact hk)
  ·rw[e] at hk
   simp at hk
   omega
theorem own_tc {wr:World} {B c:Nat} {a:Option Addr} {acc:List Tok} (h:wr.ownsRow B 82 5 (.slice a acc.length c) acc.length (flatT acc)) : TC wr a acc:=fun p t hp=>by
 have hlt:=(List.getElem?_eq_some_iff.1 hp).1
 rcases h.2 with ⟨_,e0⟩ | ⟨g,cap,cur,e,hb,hg,hc,hm,hs,ht⟩
 ·omega
 ·injection e with e1 _ _
  have cell:∀ j u,j<acc.length*5→(flatT acc)[j]? = some u→wr.cell? ⟨g,j,none⟩=some u:=fun j u hj hu=>by
   have:(cur.toList.take (acc.length*5))[j]? = (flatT acc)[j]? := by rw[ht]
   rw[List.getElem?_take_of_lt hj,hu] at this
   simp only[World.cell?,hg]
   simpa using this
  exact⟨g,e1,cell (p*5+0) _ (by omega) (flatT_get hp 0 (by decide)),cell (p*5+1) _ (by omega) (flatT_get hp 1 (by decide)),cell (p*5+2) _ (by omega) (flatT_get hp 2 (by decide)),cell (p*5+3) _ (by omega) (flatT_get hp 3 (by decide)),cell (p*5+4) _ (by omega) (flatT_get hp 4 (by decide))⟩
theorem laySg_snoc:∀ (l:List Tok) (t:Tok) (n:Nat) (ns:List PN),laySg (l++[t]) n ns=((laySg l n ns).2.length,(laySg l n ns).2++[⟨18,t.text,[(laySg l n ns).1],t.frm⟩])
 | [],t,n,ns=>rfl
 | x::l,t,n,ns=>by
   simp only[List.cons_append,laySg]
   exact laySg_snoc l t _ _
set_option maxHeartbeats 4000000 in
theorem c_signed {ts:List Tok} {B pb:Nat} (hT:Toks ts) {f i:Nat} {ns:List PN} {w:World} {F:List Nat} {r:Except Nat (List Nat×Nat×List PN)} (H:Hyp ts B pb f) (h0:PS ts B pb F i ns w) (T0:Tabs w) (hn:ns.length≤2*i+1) (hP:P ts (f+1) .signed i ns=some r) : Ctr ts B pb F w r .signed:=by
 obtain⟨i5,hi5,hz,hz1,hby⟩:=info_parts info56
 have hi:=h0.ti
 have HTL:Hid (ts.length≤200001):=h0.tl
 have HBW:Hid (B≤w.heap.size):=by have:=h0.fb pb h0.pf;unfold Hid;omega
 have HP:Hid (P ts f (.signedL []) i ns=some r):=by simp only[P] at hP;exact hP
 clear hP
 simp only[Ctr,ptr]
 have g0:Fr [] w (w.alloc (.cells #[.pointer (some ⟨pb,0,none⟩)] 169)):=(Fr.refl _ _).alloc _
 have b0:(w.alloc (.cells #[.pointer (some ⟨pb,0,none⟩)] 169)).heap[w.heap.size]? = some (.cells #[.pointer (some ⟨pb,0,none⟩)] 169 (0,0)):=heap_alloc_new w _
 have h1:=h0.fr g0 (by simp)
 have T1:=T0.fr g0 (by simp)
 have t1:=(Tr.refl F w).trans (Tr.of0 g0)
 have n1:w.heap.size∉F:=fun hm=>by have:=(h0.fb _ hm).2;omega
 have HN:Hid (ns.length≤2*i+1):=hn
 clear hn
 refine callsIn_wide.1 (callsIn_of_wp_marks (n:=0) Tryz.func206 rfl trivial ?_ rfl)
 simp only[Tryz.ntmps206,List.size_toArray,List.length_cons,List.length_nil,Nat.reduceAdd,Nat.reduceSub,Array.replicate_succ,Array.replicate_zero,List.push_toArray,List.append_toArray,List.nil_append,List.cons_append]
 gi_wp2
 generalize w.alloc (.cells #[.pointer (some ⟨pb,0,none⟩)] 169)=wA at *
 gi_loopw [3] (fun sv wr=>∃ g acc i' ns' F',g≤f∧PS ts B pb F' i' ns' wr∧Tabs wr∧SR B w F' wr sv acc∧wr.heap[w.heap.size]? = some (.cells #[.pointer (some ⟨pb,0,none⟩)] 169 (0,0))∧w.heap.size∉F'∧Tr F w F' wr∧Hid (ns'.length+2*acc.length≤2*i' + 1∧i≤i'∧acc.length≤i')∧Hid (P ts g (.signedL acc) i' ns' = some r)) (fun _ wr=>ts.length-posOf pb wr)
 case atStart=>exact⟨f,[],i,ns,F,Nat.le_refl _,h1,T1,SR.nil _ _ _ _,b0,n1,t1,by have:=HN.out;unfold Hid;simp;omega,HP⟩
 case round =>
  obtain⟨g,acc,p,ms,F1,hg,hps,hTb,hsr,hbx,hbn,htr,hbd,hPP⟩:=hrel
  clear h1 T1 t1 HP b0 n1 g0
  have HG:Hid (g≤f):=hg
  have hpi:=hps.ti
  have HPI:Hid (p<ts.length∧posOf pb wr=p):=⟨hpi,hps.pos⟩
  clear hg
  obtain⟨sa,sc,hsv,_⟩:=own_slice hsr.on
  subst hsv
  have cb:=at_cells hbx 0 rfl
  cases g with
  | zero=>exact absurd hPP.out (by simp[P])
  | succ g =>
    have hP:=hPP.out
    clear hPP
    simp only[P] at hP
    have C2:=next_any hps
    have CS:=fun w=>isSign_any (nx ts p) w
    cases hsg:isSg (nx ts p) with
    | true =>
      rw[hsg] at hP CS
      simp only[if_true] at hP
      have q2:=hT.more hpi (fun e=>by rw[e,isSg_nil] at hsg;cases hsg)
      have HP2:Hid (P ts g (.signedL (acc++[tk ts p])) (p+1) ms=some r):=hP
      clear hsg hP
      generalize nx ts p=X at C2 CS
      gi_wp2
      refine⟨trivial,rfl,(callsIn_wide.2 C2).mono ?_⟩
      rintro e w2 ⟨rfl,f2⟩
      have h2:=hps.fr f2 (by simp)
      have T2:=hTb.fr f2 (by simp)
      have s2:=hsr.tr (Tr.of0 f2)
      have t2:=htr.trans (Tr.of0 f2)
      have bx2:=(f2.block _ (Array.getElem?_eq_some_iff.1 hbx).1 (by simp)).trans hbx
      have cb2:=at_cells bx2 0 rfl
      clear C2
      gi_wp2
      refine⟨trivial,rfl,(callsIn_wide.2 (CS w2)).mono ?_⟩
      rintro e w2 ⟨rfl,rfl⟩
      have C3:=pass_any h2 q2
      unfold tokA at C3
      gi_wp2
      refine⟨trivial,rfl,(callsIn_wide.2 C3).mono ?_⟩
      rintro e w3 ⟨rfl,h3,f3⟩
      have T3:=h2.tabs T2 f3
      have s3:=s2.tr (Tr.of f3)
      have t3:=t2.trans (Tr.of f3)
      have bx3:=(f3.block _ (Array.getElem?_eq_some_iff.1 bx2).1 hbn).trans bx2
      have HB3:Hid (B≤w3.heap.size):=by have:=HBW.out;have:=t3.f.size;unfold Hid;omega
      have hnew:=tok_new w3 (.int .i64 ((tk ts p).kind:Nat)) (.string ⟨(tk ts p).text.toArray⟩) (.int .i64 ((tk ts p).frm:Nat)) (.int .i64 ((tk ts p).to:Nat)) (.int .i64 ((tk ts p).n:Nat))
      clear C3 CS cb cb2
      gi_wp2_with (gi_at_builtin;refine wpListIn_append_own_at _ rfl _ _ 74 rfl B 82 i5 (.agg #[.int .i64 0,.string ⟨#[]⟩,.int .i64 0,.int .i64 0,.int .i64 0]) 5 48 under42 hi5 hz hz1 hby rfl (by decide) (.slice sa acc.length sc) acc.length (flatT acc) rfl (s3.on.alloc _) ⟨w3.heap.size,0,none⟩ 1 1 [.int .i64 ((tk ts p).kind:Nat),.string ⟨(tk ts p).text.toArray⟩,.int .i64 ((tk ts p).frm:Nat),.int .i64 ((tk ts p).to:Nat),.int .i64 ((tk ts p).n:Nat)] rfl rfl hnew (by simp[Value.oneCell']) (by have:=hbd.out;have:=HTL.out;have:=HPI.out;unfold maxLen;omega) (by have:=hbd.out;have:=HTL.out;have:=HPI.out;omega) (by have:=HB3.out;simp;omega) ?_)
      intro v4 w4 hown4 hgrow4 hnil4 hloc4
      have f4:Fr (Value.slice sa acc.length sc).ownBlock.toList w3 w4:=((Fr.refl _ _).alloc _).trans ((Fr.ofGrown hgrow4).sub (fun k hk=>.inl hk))
      have h4:=h3.fr f4 (fun k hk=>s3.ni k (by simpa using hk))
      have T4:Tabs w4:=T3.fr f4 (fun k hk=>by have:=(s3.on.lt k (by simpa using hk)).1;have:=h3.lo;omega)
      have s4:=s3.snoc (t:=tk ts p) t3.f.size (fun k hk=>(h3.fb k hk).2) hown4 (by simpa using hloc4)
      have t4:Tr F w F1 w4:=row_tr t3 f4 (fun k hk=>s3.lo k (by simpa using hk))
      have bx4:=(f4.block _ (Array.getElem?_eq_some_iff.1 bx3).1 (fun hm=>own_ne s3.on bx3 (by decide) (by simpa using hm))).trans bx3
      clear hgrow4 hnil4 hloc4 f4 h3 T3 s3 t3 s2 t2 h2 T2 hsr hps hTb htr hown4 bx2 bx3 hbx hnew
      have HM4:Hid (posOf pb w4=p+1):=h4.pos
      gi_wp2
      go_roundw
      case rel=>exact⟨g,acc++[tk ts p],p+1,ms,F1,by have:=HG.out;omega,h4,T4,s4,bx4,hbn,t4,by have:=hbd.out;unfold Hid;simp;omega,HP2⟩
      case measure =>
       have e2:=HPI.out
       have e3:=HM4.out
       omega
    | false =>
      rw[hsg] at hP CS
      simp only[Bool.false_eq_true,if_false] at hP
      clear hsg
      generalize nx ts p=X at C2 CS
      gi_wp2
      refine⟨trivial,rfl,(callsIn_wide.2 C2).mono ?_⟩
      rintro e w2 ⟨rfl,f2⟩
      have h2:=hps.fr f2 (by simp)
      have T2:=hTb.fr f2 (by simp)
      have s2:=hsr.tr (Tr.of0 f2)
      have t2:=htr.trans (Tr.of0 f2)
      have bx2:=(f2.block _ (Array.getElem?_eq_some_iff.1 hbx).1 (by simp)).trans hbx
      have cb2:=at_cells bx2 0 rfl
      clear C2
      gi_wp2
      refine⟨trivial,rfl,(callsIn_wide.2 (CS w2)).mono ?_⟩
      rintro e w2 ⟨rfl,rfl⟩
      clear CS cb hsr hps hTb htr hbx
      rcases bindR_some hP with ⟨er,hr,he⟩ | ⟨v3,j3,n3,hr,hP3⟩
      ·subst he
       have C3:=H g .back _ _ w2 _ _ (by have:=HG.out;omega) h2 T2 trivial (by have:=hbd.out;omega) hr
       simp only[Ctr,ptr] at C3
       gi_wp2
       refine⟨trivial,rfl,(callsIn_wide.2 C3).mono ?_⟩
       rintro e w3 ⟨rfl,f3⟩
       exact⟨rfl,t2.ends f3⟩
      ·obtain⟨oa,ob,oc,od,oe⟩:=run_ok hT (nt:=.back) (ns:=ms) h2.ti trivial hr
       simp only[consN,slack] at oa od
       obtain⟨m3,rfl,hm3⟩:=oe rfl
       have C3:=H g .back _ _ w2 _ _ (by have:=HG.out;omega) h2 T2 trivial (by have:=hbd.out;omega) hr
       simp only[Ctr,ptr] at C3
       cases g with
       | zero=>exact absurd hP3 (by simp[P])
       | succ g =>
         simp only[P] at hP3
         cases hP3
         have hb3:Hid (n3.length+2*acc.length≤2*j3+1∧j3<ts.length∧acc.length≤200001∧m3<n3.length):=by have:=hbd.out;have:=HTL.out;have:=HPI.out;unfold Hid;omega
         clear hP hr oa ob oc od oe hm3
         gi_wp2
         refine⟨trivial,rfl,(callsIn_wide.2 C3).mono ?_⟩
         rintro e w3 ⟨he,F3,h3,z3⟩
         obtain rfl:e = .returned (.int .i64 (m3:Nat)):=he
         have T3:=h2.tabs T2 z3.f
         have s3:=s2.tr z3
         have t3:=t2.trans z3
         have bx3:=(z3.f.block _ (Array.getElem?_eq_some_iff.1 bx2).1 hbn).trans bx2
         have n3' := z3.notin hbn (Array.getElem?_eq_some_iff.1 bx2).1
         clear C3 cb2 h2 T2 s2 t2 bx2 hbn
         have gB:Fr [] w3 (w3.alloc (.cells #[.int .i64 (m3:Nat)] 3)):=(Fr.refl _ _).alloc _
         have bB:(w3.alloc (.cells #[.int .i64 (m3:Nat)] 3)).heap[w3.heap.size]? = some (.cells #[.int .i64 (m3:Nat)] 3 (0,0)):=heap_alloc_new w3 _
         have HSB:Hid ((w3.alloc (.cells #[.int .i64 (m3:Nat)] 3)).heap.size=w3.heap.size+1):=by unfold Hid;simp
         gi_wp2
         generalize w3.alloc (.cells #[.int .i64 (m3:Nat)] 3)=wB at *
         refine⟨trivial,rfl,(callsIn_wide.2 (backT_any _ _ _ wB)).mono ?_⟩
         rintro e wC ⟨rfl,rfl⟩
         have gC:Fr [] wB (wB.alloc (.cells #[.slice sa acc.length sc] 74)):=(Fr.refl _ _).alloc _
         have bC:(wB.alloc (.cells #[.slice sa acc.length sc] 74)).heap[wB.heap.size]? = some (.cells #[.slice sa acc.length sc] 74 (0,0)):=heap_alloc_new wB _
         have HSC:Hid ((wB.alloc (.cells #[.slice sa acc.length sc] 74)).heap.size=wB.heap.size+1):=by unfold Hid;simp
         generalize wB.alloc (.cells #[.slice sa acc.length sc] 74)=wC at *
         have eB:wB.heap.size=w3.heap.size+1:=HSB.out
         rw[eB] at bC ⊢
         have HSB' : Hid (wB.heap.size=w3.heap.size+1):=eB
         have eC:wC.heap.size=w3.heap.size+1+1:=by rw[HSC.out,eB]
         have HSC' : Hid (wC.heap.size=w3.heap.size+1+1):=eC
         clear eB HSB HSC eC
         gi_wp2
         refine range_outer (gf:=232) (lb:=#[.pointer (some ⟨w3.heap.size+1,0,none⟩)]) rfl (enters_of Tryz.func232 (by kernel_rfl) rfl) ?_
         intro rec hYr
         show CallsIn Fence.wide 0 Tryz.prog 232 #[.func (.yield (wC.heap.size+1)) #[] #[],.pointer (some ⟨w3.heap.size+1,0,none⟩)] _ _
         have gD:Fr [] wC ((wC.alloc (.deferred (some []))).alloc (.loop (rec .ready none))):=((Fr.refl _ _).alloc _).alloc _
         have hL5:=blk2 wC (.deferred (some [])) (.loop (rec .ready none))
         have hD5:((wC.alloc (.deferred (some []))).alloc (.loop (rec .ready none))).heap[wC.heap.size]? = some (.deferred (some [])):=(Below.heap_alloc _ _ _ (by simp)).trans (heap_alloc_new wC _)
         generalize (wC.alloc (.deferred (some []))).alloc (.loop (rec .ready none))=wD at *
         have eC:wC.heap.size=w3.heap.size+1+1:=HSC'.out
         rw[eC] at hL5 hD5 hYr ⊢
         have HSC'' : Hid (wC.heap.size=w3.heap.size+1+1):=eC
         clear eC
         have gBD:=gC.trans gD
         have g3D:=gB.trans gBD
         have kB:∀ {k:Nat} {o:Obj},wB.heap[k]? = some o→wD.heap[k]? = some o:=fun h=>(gBD.block _ (Array.getElem?_eq_some_iff.1 h).1 (by simp)).trans h
         have kC:∀ {k:Nat} {o:Obj},wC.heap[k]? = some o→wD.heap[k]? = some o:=fun h=>(gD.block _ (Array.getElem?_eq_some_iff.1 h).1 (by simp)).trans h
         have nF:∀ k,w3.heap.size≤k→k∉F3:=fun k hk hm=>by have:=(h3.fb k hm).2;omega
         have G0:GS ts B pb j3 F w (.slice sa acc.length sc) acc w3.heap.size rec .ready F3 m3 n3 wD:=⟨h3.fr g3D (by simp),T3.fr g3D (by simp),own_fr s3.on g3D (by simp),s3.ni,(g3D.block _ (Array.getElem?_eq_some_iff.1 bx3).1 (by simp)).trans bx3,n3',kB bB,nF _ (by omega),kC bC,nF _ (by omega),hD5,nF _ (by omega),hL5,nF _ (by omega),t3.trans (Tr.of0 g3D),(Array.getElem?_eq_some_iff.1 bx3).1,T0.len⟩
         clear gB gC gD gBD g3D kB kC nF bB bC hL5 hD5 h3 T3 s3 t3 bx3 n3' z3
         generalize w3.heap.size=bn at *
         refine (backT1 (fun q W=>∃ F',GS ts B pb j3 F w (.slice sa acc.length sc) acc bn rec .ready F' (laySg (acc.reverse.take q) m3 n3).1 (laySg (acc.reverse.take q) m3 n3).2 W) (bn+1) (bn+1+1+1) sa sc acc hb3.out.2.2.1 (fun q W h=>by obtain⟨F',h⟩:=h;exact⟨h.bx,own_tc h.on⟩) ?_ wD ⟨F3,by simpa [laySg] using G0⟩).mono ?_
         ·rintro q t Y hq ⟨F4,hg4⟩
          have hql:=(List.getElem?_eq_some_iff.1 hq).1
          have htk:Hid (laySg (acc.reverse.take (q+1)) m3 n3=((laySg (acc.reverse.take q) m3 n3).2.length,(laySg (acc.reverse.take q) m3 n3).2++[⟨18,t.text,[(laySg (acc.reverse.take q) m3 n3).1],t.frm⟩])):=by
           unfold Hid
           rw[List.take_add_one,hq]
           exact laySg_snoc _ _ _ _
          rw[htk.out]
          have HLQ:Hid ((laySg (acc.reverse.take q) m3 n3).2.length+1≤1000000):=by
           have e1:=laySg_len (acc.reverse.take q) m3 n3 hb3.out.2.2.2
           have e2:=hb3.out
           have e3:=HTL.out
           simp only[List.length_take,List.length_reverse] at e1 hql
           unfold Hid
           omega
          generalize laySg (acc.reverse.take q) m3 n3=LS at *
          obtain⟨nn,nl⟩:=LS
          simp only at *
          clear htk hq hql
          unfold tokA
          refine hYr _ Y _ rfl hg4.ll ?_
          clear hYr
          gi_wp2
          have gA:Fr [] Y (Y.alloc (.cells #[.int .i64 (t.kind:Nat),.string ⟨t.text.toArray⟩,.int .i64 (t.frm:Nat),.int .i64 (t.to:Nat),.int .i64 (t.n:Nat)] 82)):=(Fr.refl _ _).alloc _
          have uA:=TB.new Y (.int .i64 (t.kind:Nat)) (.string ⟨t.text.toArray⟩) (.int .i64 (t.frm:Nat)) (.int .i64 (t.to:Nat)) (.int .i64 (t.n:Nat))
          have hgA:=hg4.fr gA
          refine⟨hgA.ll,?_⟩
          have HLY:Hid (bn+1+1+1<Y.heap.size):=(Array.getElem?_eq_some_iff.1 hg4.ll).1
          generalize Y.alloc (.cells #[.int .i64 (t.kind:Nat),.string ⟨t.text.toArray⟩,.int .i64 (t.frm:Nat),.int .i64 (t.to:Nat),.int .i64 (t.n:Nat)] 82)=YA at *
          have hg5:=hgA.put (st' := .busy)
          have u5:=uA.fr (Fr.putObj (W:=YA) (l:=bn+1+1+1) (.loop (rec .busy none))) (by have:=HLY.out;simp;omega)
          generalize YA.putObj (bn+1+1+1) (.loop (rec .busy none))=Y1 at *
          clear hg4 hgA uA gA
          have c0:=at_cells hg5.b0 0 rfl
          have c1:=u5.c1
          have c2:=u5.c2
          have c3:=at_cells hg5.bb 0 rfl
          have gb:Fr [] Y1 (Y1.alloc (.cells #[.int .i64 (nn:Nat)] 3)):=(Fr.refl _ _).alloc _
          have ob:ON (Y1.alloc (.cells #[.int .i64 (nn:Nat)] 3)) B (.slice (some ⟨Y1.heap.size,0,none⟩) 1 1) [nn]:=ON.built Y1 B (by have:=hg5.ps.fb pb hg5.ps.pf;omega) [nn] (by simp)
          have CL:=lay_any (hg5.ps.fr gb (by simp)) (ON.kv ob) 18 t.text t.frm HLQ.out
          have gb2:=gb
          gi_wp2
          refine⟨trivial,rfl,(callsIn_wide.2 CL).mono ?_⟩
          rintro e wz ⟨rfl,Fz,hz',fz,sz⟩
          have hgz:=hg5.laid gb2 hz' fz sz (fun k hk=>by rw[own_mem hk];exact Nat.le_refl _) nl.length
          have bz:wz.heap[bn]? = some (.cells #[.int .i64 (nn:Nat)] 3 (0,0)):=by
           have h2:=(gb2.block _ (Array.getElem?_eq_some_iff.1 hg5.bb).1 (by simp)).trans hg5.bb
           exact (fz.block _ (Array.getElem?_eq_some_iff.1 h2).1 hg5.nb).trans h2
          have cz:=at_cells bz 0 rfl
          have fzz:wz.frozen? ⟨bn,0,none⟩=false:=by simp[World.frozen?,bz]
          clear CL c0 c1 c2 c3 ob gb gb2 fz sz hz' u5 hg5 bz
          gi_wp2
          exact⟨hgz.ll,rfl,Fz,hgz.put⟩
         ·rintro e W2 ⟨hv,F4,hg4⟩
          refine⟨hv,.inl ⟨hg4.ll,?_⟩⟩
          rw[List.take_of_length_le (by simp)] at hg4
          have hg5:=hg4.put (st' := .exhausted)
          generalize W2.putObj (bn+1+1+1) (.loop (rec .exhausted none))=W3 at *
          clear hg4 hYr G0
          have c3:=at_cells hg5.bb 0 rfl
          gi_wp2
          refine⟨by simp,.inl ⟨_,_,rfl,run_takeDeferred hg5.dd,?_⟩⟩
          have f9:=Fr.putObj (W:=W3) (l:=bn+1+1) (.deferred none)
          exact⟨_,results_tmp rfl _ _ _,rfl,F4,hg5.ps.fr f9 (fun k hk=>by simp at hk;subst hk;exact hg5.nd),row_tr hg5.tr f9 (fun k hk=>by have:=hg5.lo;simp at hk;omega)⟩
end Go.Proofs.YtnmfcaahdeddnaaGreatDoor
namespace Go.Proofs.YtnmfcaahdeddnaaGreatDoor
open Go
theorem hyp_all {ts:List Tok} {B pb:Nat} (hT:Toks ts) : ∀ f,Hyp ts B pb f:=by
 intro f
 induction f with
 | zero =>
   intro g nt i ns w F r hg h0 T0 hp hn hP
   have:g=0:=by omega
   subst this
   simp[P] at hP
 | succ f IH =>
   intro g nt i ns w F r hg h0 T0 hp hn hP
   by_cases hgf:g≤f
   ·exact IH g nt i ns w F r hgf h0 T0 hp hn hP
   ·have hgf' : g=f+1:=by omega
    subst hgf'
    cases nt with
    | prog=>exact c_prog hT IH h0 T0 hn hP
    | progL _=>trivial
    | decl=>exact c_decl hT IH h0 T0 hn hP
    | recd=>exact c_recd hT IH h0 T0 hp hn hP
    | func=>exact c_func hT IH h0 T0 hp hn hP
    | name=>exact c_name hT IH h0 T0 hp hn hP
    | block _=>exact c_block hT IH h0 T0 hn hP
    | blockL _ _=>trivial
    | stmt=>exact c_stmt hT IH h0 T0 hn hP
    | letS=>exact c_letS hT IH h0 T0 hp hn hP
    | choice=>exact c_choice hT IH h0 T0 hp hn hP
    | other=>exact c_other hT IH h0 T0 hp hn hP
    | whileS=>exact c_whileS hT IH h0 T0 hp hn hP
    | worded _=>exact c_worded hT IH h0 T0 hp hn hP
    | merge=>exact c_merge hT IH h0 T0 hp hn hP
    | setOrDo=>exact c_setOrDo hT IH h0 T0 hp hn hP
    | setS _=>exact c_setS hT IH h0 T0 hp hn hP
    | expr=>exact c_expr hT IH h0 T0 hp hn hP
    | chain _=>exact c_chain hT IH h0 T0 hp hn hP
    | chainL _ _=>trivial
    | joined _ _=>exact c_joined hT IH h0 T0 hp hn hP
    | signed=>exact c_signed hT IH h0 T0 hn hP
    | signedL _=>trivial
    | back=>exact c_back hT IH h0 T0 hn hP
    | backL _=>trivial
    | field _=>exact c_field hT IH h0 T0 hp hn hP
    | elem _=>exact c_elem hT IH h0 T0 hp hn hP
    | first=>exact c_first hT IH h0 T0 hn hP
    | number=>exact c_number hT h0 T0 hp hn hP
    | nameOrCall=>exact c_nameOrCall hT IH h0 T0 hp hn hP
    | made=>exact c_made hT IH h0 T0 hp hn hP
    | alone _=>exact c_alone hT IH h0 T0 hp hn hP
    | empty _=>exact c_empty hT IH h0 T0 hp hn hP
    | about _=>exact c_about hT IH h0 T0 hp hn hP
    | brack=>exact c_brack hT IH h0 T0 hp hn hP
    | listed th _ =>
      cases th
      ·exact c_listed_false hT IH h0 T0 hp hn hP
      ·exact c_listed_true hT IH h0 T0 hp hn hP
    | listedL _ _ _=>trivial
    | laySigns _ _=>trivial
end Go.Proofs.YtnmfcaahdeddnaaGreatDoor
namespace Go.Proofs.YtnmfcaahdeddnaaGreatDoor
open Go.RowKit
set_option linter.unusedVariables false
set_option linter.unusedSimpArgs false
def EM (l:List (List UInt8×Nat)) (n:Nat) : Array MapEntry:=(EsR (l.take n) 0).toArray
set_option maxHeartbeats 1000000 in
theorem decls_any (w:World) : Calls Tryz.prog 74 #[] w fun e w'=>e = .returned (.map (some w.heap.size))∧w' = w.alloc (.map (EsR declM 0).toArray 2):=by
 have hmk:(Instr.makeMap 132 none).run Tryz.prog w = .ok (.map (some w.heap.size)) (w.alloc (.map (EM declM 0) 0)):=rfl
 have i0:(Instr.mapUpdate 132 (.map (some w.heap.size)) (.string ⟨#[114,101,99]⟩) (.func (.func 107) #[] #[])).run Tryz.prog (w.alloc (.map (EM declM 0) 0)) = .ok () (w.alloc (.map (EM declM 1) 1)):=insR w (declM.take 0) ([114,101,99],107) (by decide)
 have i1:(Instr.mapUpdate 132 (.map (some w.heap.size)) (.string ⟨#[102,110]⟩) (.func (.func 108) #[] #[])).run Tryz.prog (w.alloc (.map (EM declM 1) 1)) = .ok () (w.alloc (.map (EM declM 2) 2)):=insR w (declM.take 1) ([102,110],108) (by decide)
 go_enter Tryz.func74,Tryz.ntmps74
 go_wp2
 go_ret
 exact⟨rfl,rfl⟩
set_option maxHeartbeats 1000000 in
theorem stmts_any (w:World) : Calls Tryz.prog 75 #[] w fun e w'=>e = .returned (.map (some w.heap.size))∧w' = w.alloc (.map (EsR stmtM 0).toArray 7):=by
 have hmk:(Instr.makeMap 132 none).run Tryz.prog w = .ok (.map (some w.heap.size)) (w.alloc (.map (EM stmtM 0) 0)):=rfl
 have i0:(Instr.mapUpdate 132 (.map (some w.heap.size)) (.string ⟨#[108,101,116]⟩) (.func (.func 109) #[] #[])).run Tryz.prog (w.alloc (.map (EM stmtM 0) 0)) = .ok () (w.alloc (.map (EM stmtM 1) 1)):=insR w (stmtM.take 0) ([108,101,116],109) (by decide)
 have i1:(Instr.mapUpdate 132 (.map (some w.heap.size)) (.string ⟨#[105,102]⟩) (.func (.func 110) #[] #[])).run Tryz.prog (w.alloc (.map (EM stmtM 1) 1)) = .ok () (w.alloc (.map (EM stmtM 2) 2)):=insR w (stmtM.take 1) ([105,102],110) (by decide)
 have i2:(Instr.mapUpdate 132 (.map (some w.heap.size)) (.string ⟨#[119,104,105,108,101]⟩) (.func (.func 111) #[] #[])).run Tryz.prog (w.alloc (.map (EM stmtM 2) 2)) = .ok () (w.alloc (.map (EM stmtM 3) 3)):=insR w (stmtM.take 2) ([119,104,105,108,101],111) (by decide)
 have i3:(Instr.mapUpdate 132 (.map (some w.heap.size)) (.string ⟨#[114,101,116,117,114,110]⟩) (.func (.func 112) #[] #[])).run Tryz.prog (w.alloc (.map (EM stmtM 3) 3)) = .ok () (w.alloc (.map (EM stmtM 4) 4)):=insR w (stmtM.take 3) ([114,101,116,117,114,110],112) (by decide)
 have i4:(Instr.mapUpdate 132 (.map (some w.heap.size)) (.string ⟨#[111,117,116]⟩) (.func (.func 113) #[] #[])).run Tryz.prog (w.alloc (.map (EM stmtM 4) 4)) = .ok () (w.alloc (.map (EM stmtM 5) 5)):=insR w (stmtM.take 4) ([111,117,116],113) (by decide)
 have i5:(Instr.mapUpdate 132 (.map (some w.heap.size)) (.string ⟨#[115,116,111,112]⟩) (.func (.func 114) #[] #[])).run Tryz.prog (w.alloc (.map (EM stmtM 5) 5)) = .ok () (w.alloc (.map (EM stmtM 6) 6)):=insR w (stmtM.take 5) ([115,116,111,112],114) (by decide)
 have i6:(Instr.mapUpdate 132 (.map (some w.heap.size)) (.string ⟨#[109,101,114,103,101]⟩) (.func (.func 115) #[] #[])).run Tryz.prog (w.alloc (.map (EM stmtM 6) 6)) = .ok () (w.alloc (.map (EM stmtM 7) 7)):=insR w (stmtM.take 6) ([109,101,114,103,101],115) (by decide)
 go_enter Tryz.func75,Tryz.ntmps75
 go_wp2
 go_ret
 exact⟨rfl,rfl⟩
set_option maxHeartbeats 1000000 in
theorem firsts_any (w:World) : Calls Tryz.prog 76 #[] w fun e w'=>e = .returned (.map (some w.heap.size))∧w' = w.alloc (.map (EsR firstM 0).toArray 12):=by
 have hmk:(Instr.makeMap 132 none).run Tryz.prog w = .ok (.map (some w.heap.size)) (w.alloc (.map (EM firstM 0) 0)):=rfl
 have i0:(Instr.mapUpdate 132 (.map (some w.heap.size)) (.string ⟨#[110,117,109,98,101,114]⟩) (.func (.func 116) #[] #[])).run Tryz.prog (w.alloc (.map (EM firstM 0) 0)) = .ok () (w.alloc (.map (EM firstM 1) 1)):=insR w (firstM.take 0) ([110,117,109,98,101,114],116) (by decide)
 have i1:(Instr.mapUpdate 132 (.map (some w.heap.size)) (.string ⟨#[110,97,109,101]⟩) (.func (.func 117) #[] #[])).run Tryz.prog (w.alloc (.map (EM firstM 1) 1)) = .ok () (w.alloc (.map (EM firstM 2) 2)):=insR w (firstM.take 1) ([110,97,109,101],117) (by decide)
 have i2:(Instr.mapUpdate 132 (.map (some w.heap.size)) (.string ⟨#[110,117,108,108]⟩) (.func (.func 118) #[] #[])).run Tryz.prog (w.alloc (.map (EM firstM 2) 2)) = .ok () (w.alloc (.map (EM firstM 3) 3)):=insR w (firstM.take 2) ([110,117,108,108],118) (by decide)
 have i3:(Instr.mapUpdate 132 (.map (some w.heap.size)) (.string ⟨#[114,111,111,116]⟩) (.func (.func 119) #[] #[])).run Tryz.prog (w.alloc (.map (EM firstM 3) 3)) = .ok () (w.alloc (.map (EM firstM 4) 4)):=insR w (firstM.take 3) ([114,111,111,116],119) (by decide)
 have i4:(Instr.mapUpdate 132 (.map (some w.heap.size)) (.string ⟨#[110,101,119]⟩) (.func (.func 120) #[] #[])).run Tryz.prog (w.alloc (.map (EM firstM 4) 4)) = .ok () (w.alloc (.map (EM firstM 5) 5)):=insR w (firstM.take 4) ([110,101,119],120) (by decide)
 have i5:(Instr.mapUpdate 132 (.map (some w.heap.size)) (.string ⟨#[97,114,114]⟩) (.func (.func 121) #[] #[])).run Tryz.prog (w.alloc (.map (EM firstM 5) 5)) = .ok () (w.alloc (.map (EM firstM 6) 6)):=insR w (firstM.take 5) ([97,114,114],121) (by decide)
 have i6:(Instr.mapUpdate 132 (.map (some w.heap.size)) (.string ⟨#[108,101,110]⟩) (.func (.func 122) #[] #[])).run Tryz.prog (w.alloc (.map (EM firstM 6) 6)) = .ok () (w.alloc (.map (EM firstM 7) 7)):=insR w (firstM.take 6) ([108,101,110],122) (by decide)
 have i7:(Instr.mapUpdate 132 (.map (some w.heap.size)) (.string ⟨#[105,110]⟩) (.func (.func 123) #[] #[])).run Tryz.prog (w.alloc (.map (EM firstM 7) 7)) = .ok () (w.alloc (.map (EM firstM 8) 8)):=insR w (firstM.take 7) ([105,110],123) (by decide)
 have i8:(Instr.mapUpdate 132 (.map (some w.heap.size)) (.string ⟨#[105,109,103]⟩) (.func (.func 124) #[] #[])).run Tryz.prog (w.alloc (.map (EM firstM 8) 8)) = .ok () (w.alloc (.map (EM firstM 9) 9)):=insR w (firstM.take 8) ([105,109,103],124) (by decide)
 have i9:(Instr.mapUpdate 132 (.map (some w.heap.size)) (.string ⟨#[115,105,122,101]⟩) (.func (.func 125) #[] #[])).run Tryz.prog (w.alloc (.map (EM firstM 9) 9)) = .ok () (w.alloc (.map (EM firstM 10) 10)):=insR w (firstM.take 9) ([115,105,122,101],125) (by decide)
 have i10:(Instr.mapUpdate 132 (.map (some w.heap.size)) (.string ⟨#[112,114,111,109,111,116,101]⟩) (.func (.func 126) #[] #[])).run Tryz.prog (w.alloc (.map (EM firstM 10) 10)) = .ok () (w.alloc (.map (EM firstM 11) 11)):=insR w (firstM.take 10) ([112,114,111,109,111,116,101],126) (by decide)
 have i11:(Instr.mapUpdate 132 (.map (some w.heap.size)) (.string ⟨#[40]⟩) (.func (.func 127) #[] #[])).run Tryz.prog (w.alloc (.map (EM firstM 11) 11)) = .ok () (w.alloc (.map (EM firstM 12) 12)):=insR w (firstM.take 11) ([40],127) (by decide)
 go_enter Tryz.func76,Tryz.ntmps76
 go_wp2
 go_ret
 exact⟨rfl,rfl⟩
end Go.Proofs.YtnmfcaahdeddnaaGreatDoor
