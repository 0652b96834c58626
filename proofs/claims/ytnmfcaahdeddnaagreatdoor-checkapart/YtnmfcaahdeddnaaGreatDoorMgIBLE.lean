/-
  Parts of the proof; conditions: as each says.
-/
import Derived.Test.YtnmfcaahdeddnaaGreatDoorMgFBHM
import Derived.Test.YtnmfcaahdeddnaaGreatDoorMgHLAD
import Derived.Test.YtnmfcaahdeddnaaGreatDoorMgLNGE
import Derived.Test.YtnmfcaahdeddnaaGreatDoorMgPIKF
namespace Go.Proofs.YtnmfcaahdeddnaaGreatDoor
open Go.RowKit
set_option linter.unusedVariables false
set_option linter.unusedSimpArgs false
open Go.Shelf in
theorem kidD_eq (D:List Nat) (n:Nat) : ∀ (ks:List Int) (d:Nat),T5.kidD D n ks d=kidD D n ks d
 | [],d=>rfl
 | k::ks,d=>by simp only[T5.kidD,kidD,kidD_eq D n ks]
theorem depths_eq {L5:List T5.Nd} {L:List Nd} (h:L5.map T5.Nd.ks=L.map Nd.ks) : ∀ n,T5.depths L5 n=depths L n
 | 0=>rfl
 | n+1=>by
   have e:(L5[n]?).map T5.Nd.ks=(L[n]?).map Nd.ks:=by rw[← List.getElem?_map,h,List.getElem?_map]
   simp only[T5.depths,depths,depths_eq h n]
   cases h5:L5[n]? with
   | none =>
     rw[h5] at e
     cases hL:L[n]? with
     | none=>rfl
     | some y=>rw[hL] at e;simp at e
   | some x =>
     rw[h5] at e
     cases hL:L[n]? with
     | none=>rw[hL] at e;simp at e
     | some y=>rw[hL] at e;simp at e;simp[e,kidD_eq]
theorem deep5 {L:List MN} {ms:List PN} (h:L.map MN.x=ms) : T5.deepL (L.map nd5)=deepP ms:=by
 rw[← deepL_nd h]
 unfold T5.deepL deepL
 have e:(L.map nd5).map T5.Nd.ks=(L.map ndM).map Nd.ks:=by simp[nd5,ndM,cI,Function.comp_def]
 rw[depths_eq e]
 simp
theorem fld0 (a b c d:Int) (s:ByteArray) (W:World) : (Instr.field 82 (.agg #[.int .i64 a,.string s,.int .i64 b,.int .i64 c,.int .i64 d]) 0).run Tryz.prog W = .ok (.int .i64 a) W:=by kernel_rfl
theorem RS.begin {w:World} {ts:List Tok} {B tg tc:Nat} (hR:TRow w tg ts) (hb:B≤tg) (hB:7≤B) (hw:B≤w.heap.size) (hl:ts.length≤200001) (hc:ts.length≤tc) (hp:0<ts.length) :
 RS ts B w.heap.size [w.heap.size,tg] 0 [] (w.alloc (.cells #[.slice (some ⟨tg,0,none⟩) ts.length tc,.int .i64 0,.slice none 0 0,.bool false,.int .i64 0] 80)):=by
 have f:Fr [] w (w.alloc (.cells #[.slice (some ⟨tg,0,none⟩) ts.length tc,.int .i64 0,.slice none 0 0,.bool false,.int .i64 0] 80)):=(Fr.refl _ _).alloc _
 refine⟨⟨tg,tc,.slice none 0 0,[],heap_alloc_new w _,hc,by simp,hR.fr f (by simp),rfl,World.ownsRow_nil _ _ _ _,fun k h=>by simp[Value.ownBlock] at h,by simp⟩,by simp,?_,hB,hl,hp⟩
 intro j hj
 have:=hR.lt
 simp only[List.mem_cons,List.not_mem_nil,or_false] at hj
 rcases hj with rfl | rfl
 ·simp;omega
 ·simp;omega
theorem RB.cells5 {ts:List Tok} {rb p:Nat} {w:World} (h:RB ts rb p w) : w.cell? ⟨rb,3,none⟩=some (.bool true)∧w.cell? ⟨rb,4,none⟩=some (.int .i64 (p:Nat)):=by
 obtain⟨tg,tc,i,nv,h1,_⟩:=h.ex
 exact⟨h1.cells.2.2.2.1,h1.cells.2.2.2.2.1⟩
theorem Fr.trans' {S:List Nat} {a b c:World} (h:Fr [] a b) (k:Fr S b c) (hS:∀ i∈S,a.heap.size≤i) : Fr [] a c:=((h.sub (T:=S) (by simp)).trans k).sub (fun i hi=>.inr (hS i hi))
set_option maxRecDepth 100000 in
set_option maxHeartbeats 4000000 in
theorem prgR_any (s:ByteArray) (w:World) (hs:s.size≤200000) (h7:7≤w.heap.size) :
 Calls Tryz.prog 18 #[.string s] w fun e w'=>PrgOut s w w' e∧Fr [] w w' := by
 obtain⟨i3,hi3,hz,hz1,hby⟩:=info_parts info3
 have CS:=scanR_any s w hs
 unfold scOut at CS
 rcases hsc:sc s 0 with ⟨ts,_ | ⟨p,c⟩⟩
 rotate_left
 ·rw[hsc] at CS
  have HQ:Hid (prgL s = .error (p,c)):=by unfold Hid prgL;rw[hsc]
  have hc:¬ (c:Int)=0:=by
   have h1:=scanL_err (s.size+1) 0 (s.data.toList.drop 0) (p,c) (show (sc s 0).2=_ by rw[hsc])
   simp only at h1
   omega
  replace CS:Calls Tryz.prog 31 #[.string s] w fun e w'=>e = .returned (.tuple #[.slice none 0 0,.int .i64 (p:Nat),.int .i64 (c:Nat)])∧Fr [] w w' := CS
  clear hsc
  go_enter Tryz.func18,Tryz.ntmps18
  go_wp2_with (go_at_call 31;refine CS.mono ?_)
  rintro e w1 ⟨rfl,f1⟩
  go_wp2
  exact bodyPost_ret (results_tmp3 rfl _ _ _) rfl ⟨PrgOut.err HQ.out,f1⟩
 rw[hsc] at CS
 have HT:Hid (Toks (withEnd s ts)∧ts.length≤s.size):=toks_of (by rw[hsc])
 have HKT:Hid (KT (withEnd s ts)):=kt_of (by rw[hsc])
 have HKB:Hid (KB (withEnd s ts)):=kb_of (by rw[hsc])
 have HLE:Hid (∀ i,i<(withEnd s ts).length→TLen 200020 (tk (withEnd s ts) i)):=fun i hi=>by have:=(toks_good (s:=s) (ts:=ts) (by rw[hsc]) i hi).2;exact⟨Nat.le_trans this.1 (by omega),Nat.le_trans this.2 (by omega)⟩
 have Hlen:Hid ((withEnd s ts).length=ts.length+1):=by unfold Hid;simp[withEnd]
 replace CS:Calls Tryz.prog 31 #[.string s] w fun e w'=>(∃ v,e = .returned (.tuple #[v,.int .i64 0,.int .i64 0])∧w'.ownsRow w.heap.size 82 5 v (ts.length+1) (flatT (withEnd s ts)))∧Fr [] w w' := CS
 have HPL:Hid (prgL s=afterL (withEnd s ts)):=prgL_after hsc rfl
 clear hsc
 generalize withEnd s ts=us at *
 have Hul:Hid (us.length≤200001):=by unfold Hid;have:=HT.out.2;have:=Hlen.out;omega
 clear hs
 go_enter Tryz.func18,Tryz.ntmps18
 go_wp2_with (go_at_call 31;refine CS.mono ?_)
 rintro e w1 ⟨⟨v,rfl,hrow⟩,f1⟩
 rw[← Hlen.out] at hrow
 have hul:=Hul.out
 obtain⟨g,tc,rfl,hg,htc,hR⟩:=row_of hrow (by have:=Hlen.out;omega)
 have CT:=nest_any (tc:=tc) hR hul htc HKB.out
 clear CS hrow
 cases hto:tooO us 0 with
 | some p =>
   have HQ:Hid (prgL s = .error (p,51)):=HPL.out.trans (by unfold afterL;rw[hto])
   rw[hto] at CT
   simp only[NestV] at CT
   have hp0:(0:Int)≤(p:Int):=by omega
   go_wp2_with (go_at_call 32;refine CT.mono ?_)
   rintro e w2 ⟨rfl,f2⟩
   go_wp2
   exact bodyPost_ret (results_tmp3 rfl _ _ _) rfl ⟨PrgOut.err HQ.out,f1.trans f2⟩
 | none =>
   have HP2:Hid (prgL s=match fullP us with | .error k=>.error ((tk us k).frm,60) | .ok (_,_,ms)=>if 50000<ms.length then .error (0,2) else if 200<deepP ms then .error (0,51) else .ok ms):=HPL.out.trans (by unfold afterL;rw[hto];rcases fullP us with k | ⟨v,j,ms⟩ <;> rfl)
   rw[hto] at CT
   simp only[NestV] at CT
   go_wp2_with (go_at_call 32;refine CT.mono ?_)
   rintro e w2 ⟨rfl,f2⟩
   have f02:=f1.trans f2
   have hR2:=hR.fr f2 (by simp)
   have hb0:=RS.begin (B:=w.heap.size) (tc:=tc) hR2 hg h7 f02.size hul htc HT.out.1.pos
   have HGW:Hid (w.heap.size≤g):=hg
   have gW:Fr [] w2 (w2.alloc (.cells #[.slice (some ⟨g,0,none⟩) us.length tc,.int .i64 0,.slice none 0 0,.bool false,.int .i64 0] 80)):=(Fr.refl _ _).alloc _
   have HW3:Hid (Fr [] w (w2.alloc (.cells #[.slice (some ⟨g,0,none⟩) us.length tc,.int .i64 0,.slice none 0 0,.bool false,.int .i64 0] 80))):=f02.trans gW
   have HRB:Hid (w.heap.size≤w2.heap.size):=f02.size
   have HM:Hid (∀ v j ms,fullP us = .ok (v,j,ms)→j<us.length∧ms.length≤2*j+1∧∀ x∈ms,x.text.length≤200020):=by
    intro v j ms h
    have hh:=(fullP_eq HT.out.1).trans (congrArg some h)
    have e:=run_ok HT.out.1 (nt:=.prog) (i:=0) (ns:=[]) (g:=40*us.length+29) HT.out.1.pos trivial hh
    have e1:=e.2.1
    have e2:=e.2.2.2.1
    simp only[slack,List.length_nil] at e2
    refine⟨e1,by omega,fun x hx=>(keep_len (M:=200020) HT.out.1 (by omega) HLE.out _ .prog _ _ (fun t h=>by cases h) v j ms hh (by simp) x hx).1⟩
   obtain⟨r,HR⟩ : ∃ r,Hid (fullP us=r):=⟨_,rfl⟩
   have HP:Hid (P us (40*us.length+28) (.progL []) 0 []=some r):=by
    have:=fullP_eq HT.out.1
    rw[HR.out] at this
    have e:P us (40*us.length+29) .prog 0 []=P us (40*us.length+28) (.progL []) 0 []:=by rw[P]
    rw[← e]
    exact this
   rw[HR.out] at HP2 HM
   have HH:Hid (∀ f,RHyp us w.heap.size w2.heap.size f):=rhyp_all HT.out.1 HKT.out
   obtain⟨rb,HRBE⟩ : ∃ rb,Hid (w2.heap.size=rb):=⟨_,rfl⟩
   clear CT hto HPL hR hR2 hg htc
   go_wp2
   rw[HRBE.out] at hb0 HH HRB
   rw[HRBE.out]
   generalize hW3:w2.alloc (.cells #[.slice (some ⟨g,0,none⟩) us.length tc,.int .i64 0,.slice none 0 0,.bool false,.int .i64 0] 80)=w3 at *
   have hT:=HT.out.1
   have HTL:Hid (us.length≤200001):=Hul
   go_loopw [10] (fun kv wr=>(∃ g' acc i' ns' F',RS us w.heap.size rb F' i' ns' wr∧KR w.heap.size w3 F' wr kv acc∧Tr [rb,g] w3 F' wr∧Hid (ns'.length≤2*i'∧acc.length≤i')∧Hid (P us g' (.progL acc) i' ns' = some r))∨(∃ k,r = .error k∧RB us rb (tk us k).frm wr∧Fr [rb,g] w3 wr)) (fun _ wr=>measR us rb wr)
   case atStart=>exact .inl ⟨_,[],0,[],_,hb0,KR.nil _ _ _ _,Tr.refl _ _,by unfold Hid;simp,HP⟩
   case round =>
    have HSUB:Hid (∀ k∈[rb,g],w.heap.size≤k):=by unfold Hid;have:=HRB.out;have:=HGW.out;simp;omega
    have HBW:Hid (w.heap.size≤w3.heap.size):=HW3.out.size
    clear hb0 HP gW f02
    rcases hrel with ⟨g',acc,p,ms,F1,hps,hkr,htr,hbd,hPP⟩ | ⟨k,rfl,hb,fe⟩
    rotate_left
    ·have c3:=hb.cells
     have HQ:Hid (prgL s = .error ((tk us k).frm,60)):=HP2.out
     go_wp2_with fail
     refine (rnode_bad hb _ _ _ _).mono ?_
     rintro e w5 ⟨rfl,f5⟩
     have hb5:=hb.fr f5
     have fe5:Fr [] w w5:=(HW3.out.trans' ((fe.trans (f5.sub (by simp)))) HSUB.out)
     have FZ:∀ w',Fr [] w5 w'→RB us rb (tk us k).frm w' := fun w' f=>hb5.fr f
     obtain⟨d3,d4⟩:=hb5.cells5
     have r4:∀ w',Fr [] w5 w'→w'.cell? ⟨rb,4,none⟩=some (.int .i64 ((tk us k).frm:Nat)):=fun w' f=>f.cell1 d4 (by simp)
     have f55:Fr [] w5 w5:=Fr.refl _ _
     clear c3 FZ
     go_wp2
     go_region_held3 (fun w'=>Fr [] w5 w') (with_reducible (first | assumption | (refine Fr.drew ?_;assumption))) (fail)
     go_wp2
     exact bodyPost_ret (results_tmp3 rfl _ _ _) rfl ⟨PrgOut.err HQ.out,fe5.drew⟩
    obtain _ | g' := g'
    ·exact absurd hPP.out (by simp[P])
    have hpi:=hps.ti
    have HPI:Hid (p<us.length∧measR us rb wr=us.length-p+1):=⟨hpi,hps.meas⟩
    obtain⟨ka,kc,hkv,_⟩:=own_slice hkr.on
    subst hkv
    have o0:=hkr.on
    have ny0:=hkr.ni
    have z0:Hid (∀ k,(Value.slice ka acc.length kc).ownBlock=some k→w3.heap.size≤k):=hkr.lo
    obtain⟨_,_,_,c3w,_⟩:=hps.cells
    clear hkr
    have hP:=hPP.out
    simp only[P] at hP
    clear hPP
    have C5:=hps.now
    unfold tokA at C5
    by_cases e1:nx us p = []
    ·rw[if_pos e1] at hP
     have k0:=(HKT.out.stop hpi).1 e1
     have hk:((((tk us p).kind:Nat) : Int) != 0)=false:=by simp;omega
     have HRR:Hid (r = .ok ([ms.length],p,ms++[⟨1,[],acc,0⟩])):=by cases hP;rfl
     clear hP e1 k0
     go_wp2_with fail
     refine C5.mono ?_
     rintro e w5 ⟨rfl,f5⟩
     have fl5:=fld0 ((tk us p).kind:Nat) ((tk us p).frm:Nat) ((tk us p).to:Nat) ((tk us p).n:Nat) ⟨(tk us p).text.toArray⟩ w5
     have h5:=hps.fr f5 (by simp)
     have o5:=own_fr o0 f5 (by simp)
     have t5:=htr.trans (Tr.of0 f5)
     have KV0:=ON.kv o5
     have LO:∀ k∈(Value.slice ka acc.length kc).ownBlock.toList,w3.heap.size≤k:=fun k hk=>z0.out k (by simpa using hk)
     have CL:=rnode_any h5 KV0 1 [] 0 (by have:=hbd.out;have:=HTL.out;have:=hpi;omega)
     clear C5 c3w
     go_wp2_with fail
     refine CL.mono ?_
     rintro e wz ⟨rfl,Fz,hz',fz,sz⟩
     have tz:Tr [rb,g] w3 Fz wz:=lay_tr t5 fz sz LO
     have FW:Fr [] w wz:=HW3.out.trans' tz.f HSUB.out
     have HM2:=HM
     rw[HRR.out] at HM2 HP2
     obtain⟨q1,q2,q3⟩:=HM2.out _ _ _ rfl
     obtain⟨tg',tc',nv,L,b1,b2,b3,b4,b11,b12,b13,b14⟩:=hz'.ex
     obtain⟨na,nc,rfl,_⟩:=own_slice b12
     have hLl:L.length=(ms++[(⟨1,[],acc,0⟩ : PN)]).length:=by rw[← b11];simp
     obtain⟨_,_,d2,d3,_,_⟩:=b1.cells
     have HLx:Hid (∀ m∈L,m.x.text.length≤200020):=fun m hm=>q3 m.x (by rw[← b11];exact List.mem_map_of_mem hm)
     have N5:=nodes5 b12 b14 (fun j hj=>(hz'.fb j hj).2) HLx.out
     have CD:=T5.rdeep_any wz.heap.size (L.map nd5) wz na L.length nc (by simp) N5 (by have:=hbd.out;have:=HTL.out;have:=hpi;simp at hLl;omega) (Nat.le_refl _)
     rw[deep5 b11] at CD
     have HLl:Hid (L.length=ms.length+1):=by unfold Hid;simpa using hLl
     have HLm:Hid (L.map MN.x=ms++[⟨1,[],acc,0⟩]):=b11
     have HOw:Hid (wz.ownsRow w.heap.size 55 4 (.slice na L.length nc) L.length (flatM L)):=b12
     have HFz:Hid (∀ j∈Fz,w.heap.size≤j∧j<wz.heap.size):=fun j hj=>⟨(hz'.fb j hj).1,(hz'.fb j hj).2⟩
     have HJ:Hid (ms.length+1≤400003):=by unfold Hid;have:=hbd.out;have:=HTL.out;omega
     have hLc:(L.length:Int)≤400003:=by have:=HLl.out;have:=HJ.out;omega
     clear N5 hLl b12 b11 KV0 LO CL q3 HM
     generalize ms++[(⟨1,[],acc,0⟩ : PN)]=MS at *
     have HLM:Hid (L.length=MS.length):=by unfold Hid;rw[← HLm.out];simp
     by_cases h5:50000<MS.length
     ·have h5' : (50000:Int)<(L.length:Int):=by have:=HLM.out;omega
      have HQ:Hid (prgL s = .error (0,2)):=HP2.out.trans (by simp only;rw[if_pos h5])
      go_wp2
      exact bodyPost_ret (results_tmp3 rfl _ _ _) rfl ⟨PrgOut.err HQ.out,FW⟩
     ·have h5' : (L.length:Int)≤50000:=by have:=HLM.out;omega
      by_cases h6:200<deepP MS
      ·have h6' : (200:Int)<(deepP MS:Int):=by omega
       have HQ:Hid (prgL s = .error (0,51)):=HP2.out.trans (by simp only;rw[if_neg h5,if_pos h6])
       go_wp2_with (go_at_call 36;refine CD.mono ?_)
       rintro e w9 ⟨rfl,f9⟩
       go_wp2
       exact bodyPost_ret (results_tmp3 rfl _ _ _) rfl ⟨PrgOut.err HQ.out,FW.trans f9⟩
      ·have h6' : (deepP MS:Int)≤200:=by omega
       have HQ:Hid (prgL s = .ok MS):=HP2.out.trans (by simp only;rw[if_neg h5,if_neg h6])
       go_wp2_with (go_at_call 36;refine CD.mono ?_)
       rintro e w9 ⟨rfl,f9⟩
       have d22:=f9.cell1 d2 (by simp)
       go_wp2
       exact bodyPost_ret (results_tmp3 rfl _ _ _) rfl ⟨PrgOut.ok HQ.out ⟨_,L,Fz,rfl,HLm.out,own_fr HOw.out f9 (by simp),b13,fun m hm=>(b14 m hm).fr f9 (by simp),fun j hj=>⟨(HFz.out j hj).1,Nat.lt_of_lt_of_le (HFz.out j hj).2 f9.size⟩⟩,FW.trans f9⟩
    ·rw[if_neg e1] at hP
     have k0:=mt (HKT.out.stop hpi).2 e1
     have hk:((((tk us p).kind:Nat) : Int) != 0)=true:=by simp;omega
     have HP:Hid (_=some r):=hP
     clear hP e1 k0
     go_wp2_with fail
     refine C5.mono ?_
     rintro e w5 ⟨rfl,f5⟩
     have fl5:=fld0 ((tk us p).kind:Nat) ((tk us p).frm:Nat) ((tk us p).to:Nat) ((tk us p).n:Nat) ⟨(tk us p).text.toArray⟩ w5
     have h5:=hps.fr f5 (by simp)
     have o5:=own_fr o0 f5 (by simp)
     have t5:=htr.trans (Tr.of0 f5)
     clear C5 c3w
     rcases bindR_some HP.out with ⟨er,hr,he⟩ | ⟨v6,j6,n6,hr,hP⟩
     ·subst he
      have C6:=HH.out g' g' .decl _ _ w5 _ _ (Nat.le_refl _) h5 trivial (by have:=hbd.out;omega) hr
      simp only[RCtr,ptr] at C6
      go_wp2_with fail
      refine C6.mono ?_
      rintro e w6 ⟨x6,rfl,hb6,f6⟩
      clear C6
      have fe6:=t5.ends f6
      have ob9:=own_fr o5 f6 (fun k hk=>ny0 k hk)
      have HB9:Hid (w.heap.size≤w6.heap.size):=by have:=HBW.out;have:=fe6.size;unfold Hid;omega
      go_wp2_with (at_builtin;refine wpList_append_own_at _ rfl _ _ 26 rfl w.heap.size 3 i3 (.int .i64 0) 1 8 under35 hi3 hz hz1 hby rfl (by decide) (.slice ka acc.length kc) acc.length (acc.map (fun k=>Value.int .i64 (k:Nat))) rfl (ob9.alloc _) ⟨w6.heap.size,0,none⟩ 1 1 [.int .i64 x6] rfl rfl (one_new w6 _) (by simp[Value.oneCell']) (by have:=hbd.out;have:=HPI.out;have:=HTL.out;unfold maxLen;omega) (by have:=hbd.out;have:=HPI.out;have:=HTL.out;omega) (by have:=HB9.out;simp;omega) ?_)
      intro v9 w9 hown9 hgrow9 hnil9 hloc9
      have f9:Fr (Value.slice ka acc.length kc).ownBlock.toList w6 w9:=((Fr.refl _ _).alloc _).trans ((Fr.ofGrown hgrow9).sub (fun k hk=>.inl hk))
      have hb9:=hb6.fr_row ob9 f9
      have fe9:Fr [rb,g] w3 w9:=(Tr.of fe6).ends_row f9 (fun k hk=>z0.out k (by simpa using hk))
      obtain⟨va,vc,hv9,_⟩:=own_slice hown9
      subst hv9
      clear hown9 hgrow9 hnil9 hloc9 ob9
      have HM9:Hid (measR us rb w9=0):=hb9.meas
      go_wp2
      go_roundw
      case rel=>exact .inr ⟨_,rfl,hb9,fe9⟩
      case measure=>have e2:=HPI.out;have e3:=HM9.out;omega
     ·obtain⟨oa,ob,oc,od,oe⟩:=run_ok hT (nt:=.decl) (ns:=ms) hpi trivial hr
      simp only[consN,slack] at oa od
      obtain⟨m6,rfl,hm6⟩:=oe rfl
      have C6:=HH.out g' g' .decl _ _ w5 _ _ (Nat.le_refl _) h5 trivial (by have:=hbd.out;omega) hr
      simp only[RCtr,ptr] at C6
      have HP:Hid (P us g' (.progL (acc++[m6])) j6 n6=some r):=hP
      have B6:Hid (n6.length≤2*j6∧p<j6∧j6<us.length):=by have:=hbd.out;unfold Hid;omega
      clear hP hr oa ob oc od oe hm6
      go_wp2_with fail
      refine C6.mono ?_
      rintro e w6 ⟨he,F6,h6,s6⟩
      obtain rfl:e = .returned (.int .i64 (m6:Nat)):=he
      clear C6
      have t6:=t5.trans s6
      have o6:=own_fr o5 s6.f (fun k hk=>ny0 k hk)
      have ny6:∀ k,(Value.slice ka acc.length kc).ownBlock=some k→k∉F6:=fun k hk=>Tr.notin s6 (ny0 k hk) (o5.lt k hk).2
      have HB9:Hid (w.heap.size≤w6.heap.size):=by have:=HBW.out;have:=t6.f.size;unfold Hid;omega
      go_wp2_with (at_builtin;refine wpList_append_own_at _ rfl _ _ 26 rfl w.heap.size 3 i3 (.int .i64 0) 1 8 under35 hi3 hz hz1 hby rfl (by decide) (.slice ka acc.length kc) acc.length (acc.map (fun k=>Value.int .i64 (k:Nat))) rfl (o6.alloc _) ⟨w6.heap.size,0,none⟩ 1 1 [.int .i64 (m6:Nat)] rfl rfl (one_new w6 _) (by simp[Value.oneCell']) (by have:=hbd.out;have:=HPI.out;have:=HTL.out;unfold maxLen;omega) (by have:=hbd.out;have:=HPI.out;have:=HTL.out;omega) (by have:=HB9.out;simp;omega) ?_)
      intro v9 w9 hown9 hgrow9 hnil9 hloc9
      have f9:Fr (Value.slice ka acc.length kc).ownBlock.toList w6 w9:=((Fr.refl _ _).alloc _).trans ((Fr.ofGrown hgrow9).sub (fun k hk=>.inl hk))
      have kr9:KR w.heap.size w3 F6 w6 (.slice ka acc.length kc) acc:=⟨o6,ny6,fun k hk=>z0.out k hk⟩
      have h9:=h6.fr f9 (fun k hk=>kr9.ni k (by simpa using hk))
      have k9:=kr9.snoc t6.f.size (fun j hj=>(h6.fb j hj).2) hown9 (by simpa using hloc9)
      have t9:Tr [rb,g] w3 F6 w9:=row_tr t6 f9 (fun k hk=>kr9.lo k (by simpa using hk))
      clear hown9 hgrow9 hnil9 hloc9 kr9
      have HM9:Hid (measR us rb w9=us.length-j6+1):=h9.meas
      go_wp2
      go_roundw
      case rel=>exact .inl ⟨g',acc++[m6],j6,n6,F6,h9,k9,t9,by have:=B6.out;have:=hbd.out;unfold Hid;simp;omega,HP⟩
      case measure=>have e2:=HPI.out;have e3:=HM9.out;have:=B6.out;omega
end Go.Proofs.YtnmfcaahdeddnaaGreatDoor
