/-
  Parts of the proof; conditions: as each says.
-/
import Derived.Laws.RangeString
import Derived.Deep.RegionHeld3
import Derived.Test.YtnmfcaahdeddnaaGreatDoorMgKFHK
set_option maxRecDepth 100000
namespace Go.Proofs.YtnmfcaahdeddnaaGreatDoor.T5
open Go.RowKit
set_option maxRecDepth 100000
set_option linter.unusedVariables false
set_option linter.unusedSimpArgs false
set_option maxHeartbeats 1000000 in
theorem kindFits_any (c:Nat) (k:Int) (w:World) (hc:c<128) :
 Calls Tryz.prog 174 #[.int .i32 c,.int .i64 k] w fun e w'=>e = .returned (.bool (kfit c k))∧w' = w:=by
 go_enter Tryz.func174,Tryz.ntmps174
 go_wp2
 all_goals go_ret
 all_goals refine⟨congrArg (fun b=>Ending.returned (Value.bool b)) ?_,rfl⟩
 all_goals unfold kfit
 all_goals clear hc
 all_goals simp only[beq_iff_eq,beq_eq_false_iff_ne,decide_eq_true_eq,decide_eq_false_iff_not,ne_eq] at *
 all_goals (repeat (first | rfl | (exfalso;omega) | split))
 all_goals first | rfl | (simp_all;done) | (simp;omega) | skip
theorem cfit_at {c:Nat} {K:List Int} {i:Nat} {q:Int} (h:K[i]? = some q) : cfit c (K.drop i)=if kfit c q then cfit c (K.drop (i+1))+1 else 0:=by
 obtain⟨hl,he⟩:=List.getElem?_eq_some_iff.1 h
 rw[List.drop_eq_getElem_cons hl,he]
 rfl
theorem kd_at {L:List Nd} {q:Nat} {x:Nd} (h:L[q]? = some x) : kd L (q:Int)=x.kind:=by simp[kd,h]
set_option maxHeartbeats 1000000 in
theorem countFitting_any (c:Nat) (hc:c<128) (B:Nat) (L:List Nd) (w:World) (a:Option Addr) (len cap:Nat) (hlen:L.length=len) (hL:NAt B w a L) (hm:len≤maxLen)
 (ks:List Int) (ka:Option Addr) (m kc:Nat) (hkm:ks.length=m) (hk:KAt B w ka ks) (hkl:m≤maxLen) (hin:∀ k∈ks,0≤k∧k<len) :
 Calls Tryz.prog 138 #[.int .i32 c,.slice a len cap,.slice ka m kc] w fun e w'=>e = .returned (.int .i64 (cfit c (ks.map (kd L))))∧w' = w:=by
 unfold maxLen at hm hkl
 have HL:Hid (L.length=len):=hlen
 have HK:Hid (ks.length=m):=hkm
 have HI:Hid (∀ k∈ks,0≤k∧k<len):=hin
 clear hlen hkm hin
 go_enter Tryz.func138,Tryz.ntmps138
 go_wp2
 go_loop [11] (fun i=>∃ p:Nat,p≤m∧i = .int .i64 p∧Hid (cfit c ((ks.map (kd L)).drop p)+p=cfit c (ks.map (kd L)))) (fun i=>m-(intOf i).toNat)
 case atStart=>exact⟨0,Nat.zero_le _,rfl,by unfold Hid;simp⟩
 case round =>
  obtain⟨p,hp,rfl,he⟩:=hrel
  by_cases hlt:p<m
  ·have hx:ks[p]? = some (ks[p]'(by rw[HK.out];exact hlt)):=List.getElem?_eq_getElem _
   have hq:=HI.out _ (List.mem_of_getElem? hx)
   generalize ks[p]'(by rw[HK.out];exact hlt)=q0 at hx hq
   obtain⟨q,rfl⟩:=Int.eq_ofNat_of_zero_le hq.1
   obtain⟨b,o,rfl,hb,hcell⟩:=hk p _ hx
   have hql:q<L.length:=by rw[HL.out];omega
   have hy:L[q]? = some L[q]:=List.getElem?_eq_getElem hql
   generalize L[q]=y at hy
   obtain⟨b',o',rfl,hb',hN⟩:=hL q y hy
   have c0:=hN.c0
   have HC:Hid (cfit c ((ks.map (kd L)).drop p)=if kfit c y.kind then cfit c ((ks.map (kd L)).drop (p+1))+1 else 0):=cfit_at (by simp[hx,kd_at hy])
   have hqn:(q:Int)<(len:Int):=hq.2
   clear hN hL hk hy hx hq hql
   have C:=fun w=>kindFits_any c y.kind w hc
   cases hf:kfit c y.kind with
   | true =>
     rw[hf] at C
     go_wp2_with (go_at_call 174;refine (C _).mono ?_;rintro e w' ⟨rfl,rfl⟩)
     go_round
     case rel=>exact⟨p+1,hlt,by go_num,by unfold Hid;rw[← he.out,HC.out,if_pos hf];omega⟩
     case measure=>simp[intOf];omega
   | false =>
     rw[hf] at C
     go_wp2_with (go_at_call 174;refine (C _).mono ?_;rintro e w' ⟨rfl,rfl⟩)
     go_ret
     refine⟨?_,rfl⟩
     rw[← he.out,HC.out,if_neg (by rw[hf];decide)]
     simp
  ·have hpm:p=m:=by omega
   have HE:Hid (cfit c ((ks.map (kd L)).drop p)=0):=by
    unfold Hid
    rw[List.drop_of_length_le (by simp[HK.out];omega)]
    rfl
   go_wp2
   go_ret
   refine⟨?_,rfl⟩
   rw[← he.out,HE.out,hpm]
   simp
theorem toLower_any (c:Nat) (hc:c<128) (w:World) :
 Calls Tryz.prog 137 #[.int .i32 c] w fun e w'=>e = .returned (.int .i32 (lowN c))∧w' = w:=by
 unfold lowN
 by_cases h1:65≤c
 ·by_cases h2:c≤90
  ·rw[if_pos ⟨h1,h2⟩]
   go_enter Tryz.func137,Tryz.ntmps137
   go_wp2
   go_ret
   exact⟨by go_num,rfl⟩
  ·rw[if_neg (by omega)]
   go_enter Tryz.func137,Tryz.ntmps137
   go_wp2
   go_ret
   exact⟨rfl,rfl⟩
 ·rw[if_neg (by omega)]
  go_enter Tryz.func137,Tryz.ntmps137
  go_wp2
  go_ret
  exact⟨rfl,rfl⟩
theorem low_lt {c:Nat} (h:c<128) : lowN c<128:=by unfold lowN;split <;> omega
end Go.Proofs.YtnmfcaahdeddnaaGreatDoor.T5
namespace Go.Proofs.YtnmfcaahdeddnaaGreatDoor.T5
open Go.RowKit
set_option maxRecDepth 100000
set_option linter.unusedVariables false
theorem fitL_at {s:ByteArray} {p:Nat} (h:p<s.size) (K:List Int) : fitL (s.data.toList.drop p) K=if lowN s[p].toNat=s[p].toNat then (hfit s[p].toNat K&&fitL (s.data.toList.drop (p+1)) (K.drop 1)) else fitL (s.data.toList.drop (p+1)) (K.drop (cfit (lowN s[p].toNat) K)):=by
 rw[drop_cons s p h]
 rfl
theorem KAt.drop {B:Nat} {w:World} {ad:Addr} {ks:List Int} (h:KAt B w (some ad) ks) (q:Nat) : KAt B w (some (ad.add q)) (ks.drop q):=fun j k hk=>by
 rw[List.getElem?_drop] at hk
 obtain⟨b,o,e,hb,hc⟩:=h _ k hk
 injection e with e
 subst e
 exact⟨b,o+q,by rw[Addr.add_lit],hb,by rw[Nat.add_assoc];exact hc⟩
theorem KAt.nil {B:Nat} {w:World} {a:Option Addr} : KAt B w a []:=fun j k hk=>by simp at hk
set_option maxHeartbeats 2000000 in
theorem kidsFit_any (s:ByteArray) (hs:s.size≤maxLen) (has:∀ i (h:i<s.size),(s[i]'h).toNat<128) (B:Nat) (L:List Nd) (w:World) (a:Option Addr) (len cap:Nat) (hlen:L.length=len) (hL:NAt B w a L) (hm:len≤maxLen) (hB:B≤w.heap.size)
 (ks:List Int) (ka:Option Addr) (m kc:Nat) (hkm:ks.length=m) (hk:KAt B w ka ks) (hkl:m≤maxLen) (hmc:m≤kc) (hka:ka=none→kc=0) (hin:∀ k∈ks,0≤k∧k<len) :
 Calls Tryz.prog 85 #[.string s,.slice a len cap,.slice ka m kc] w fun e w'=>e = .returned (.bool (fitL s.data.toList (ks.map (kd L))))∧Fr [] w w' := by
 have CF:=fun (c:Nat) (hc:c<128) (pos:Nat) (q:Nat) (a2:Option Addr) (m2 c2:Nat) (e2:(ks.drop q).length=m2) (h2:KAt B (w.iter s pos) a2 (ks.drop q)) (hm2:m2≤maxLen) =>
  countFitting_any c hc B L (w.iter s pos) a len cap hlen (hL.fr (((Fr.refl [] w).alloc _:Fr [] w (w.iter s pos))) (by simp)) hm (ks.drop q) a2 m2 c2 e2 h2 hm2 (fun k hk'=>hin k (List.mem_of_mem_drop hk'))
 have HK:Hid (ks.length=m):=hkm
 have FR:∀ pos,Fr [] w (w.iter s pos):=fun pos=>(Fr.refl [] w).alloc _
 unfold maxLen at hs hkl
 clear hlen hkm hin hL hm
 generalize hKK:ks.map (kd L)=K at *
 have HD:∀ q,Hid ((ks.drop q).map (kd L)=K.drop q):=fun q=>by unfold Hid;rw[← hKK,List.map_drop]
 have HKl:Hid (K.length=m):=by unfold Hid;rw[← hKK];simp[HK.out]
 clear hKK
 go_enter Tryz.func85,Tryz.ntmps85
 go_wp2
 go_loopw [7] (fun at_ wr=>∃ pos q:Nat,pos≤s.size∧wr=w.iter s pos∧at_ = .int .i64 q∧q≤m∧Hid (fitL (s.data.toList.drop pos) (K.drop q)=fitL s.data.toList K)) (fun _ wr=>s.size-wr.iterPos w.heap.size)
 case atStart=>exact⟨0,0,Nat.zero_le _,rfl,rfl,Nat.zero_le _,rfl⟩
 case round =>
  obtain⟨pos,q,hps,rfl,rfl,hq,he⟩:=hrel
  have hmu:(w.iter s pos).iterPos w.heap.size=pos:=by simp[World.iterPos,World.iter_heap]
  have hmu2:(w.iter s (pos+1)).iterPos w.heap.size=pos+1:=by simp[World.iterPos,World.iter_heap]
  by_cases hp:pos<s.size
  ·have hc:=has pos hp
   have hnx:=fun ty=>run_next_ascii (P:=Tryz.prog) w s pos ty hp hc
   have HF:Hid _:=fitL_at hp (K.drop q)
   generalize s[pos].toNat=c at *
   have TL:=fun w=>toLower_any c hc w
   have hc2:=low_lt hc
   have CC:=fun a2 c2 hk2=>CF (lowN c) hc2 (pos+1) q a2 (m-q) c2 (by rw[List.length_drop,HK.out]) hk2 (by unfold maxLen;omega)
   rw[(HD q).out] at CC
   have hle:=cfit_le (lowN c) (K.drop q)
   have HLE:Hid (cfit (lowN c) (K.drop q)+q≤m):=by unfold Hid;rw[List.length_drop,HKl.out] at hle;omega
   have H0:Hid _:=cfit0 (lowN c) (K.drop q)
   have HDD:∀ i,Hid (List.drop i (List.drop q K)=List.drop (q+i) K):=fun i=>by unfold Hid;rw[List.drop_drop]
   have forms:(ka=none∧kc=0∧m=0∧q=0)∨(∃ ad,ka=some ad∧kc=m∧q=m)∨(∃ ad,ka=some ad∧kc≠q):=by
    cases ka with
    | none=>have:=hka rfl;exact .inl ⟨rfl,this,by omega,by omega⟩
    | some ad=>by_cases e:kc=q
               ·exact .inr (.inl ⟨ad,rfl,by omega,by omega⟩)
               ·exact .inr (.inr ⟨ad,rfl,e⟩)
   have k2:∀ ad,m≤q→KAt B (w.iter s (pos+1)) ad (ks.drop q):=fun ad e=>by
    have:ks.drop q = []:=by rw[List.drop_eq_nil_iff,HK.out];omega
    rw[this];exact KAt.nil
   have hle' := HLE.out
   clear hle CF hka
   generalize hN:cfit (lowN c) (K.drop q)=n at *
   have HA:Hid (lowN c=c→n=0→fitL s.data.toList K=false):=fun h1 h2=>by
    rw[← he.out,HF.out,if_pos h1]
    cases hh:hfit c (K.drop q) with
    | false=>rfl
    | true=>exact absurd h2 (H0.out.2 (by rw[h1];exact hh))
   have HB:Hid (lowN c=c→n≠0→fitL (s.data.toList.drop (pos+1)) (K.drop (q+1))=fitL s.data.toList K):=fun h1 h2=>by
    rw[← he.out,HF.out,if_pos h1,(HDD 1).out]
    have hh:hfit c (K.drop q)=true:=by have:=H0.out.1 h2;rw[h1] at this;exact this
    rw[hh];rfl
   have HC:Hid (lowN c≠c→fitL (s.data.toList.drop (pos+1)) (K.drop (q+n))=fitL s.data.toList K):=fun h1=>by
    rw[← he.out,HF.out,if_neg h1,(HDD n).out]
   clear HF H0 HDD he hN HLE
   rcases forms with ⟨rfl,rfl,rfl,rfl⟩ | ⟨ad,rfl,rfl,rfl⟩ | ⟨ad,rfl,hne⟩
   ·have C5:=CC none 0 (k2 _ (Nat.le_refl _))
    clear CC k2
    simp only[Nat.sub_zero] at C5
    by_cases h1:lowN c=c
    ·have h1' : ((c:Int) == (lowN c:Int))=true:=by rw[h1];simp
     have h2:n=0:=by omega
     have h2' : ((n:Int) == 0)=true:=by simp[h2]
     have HR:Hid _:=HA.out h1 h2
     clear HA HB HC
     clear h1
     clear h2
     go_wp2_with (first | (go_at_call 137;refine (TL _).mono ?_;rintro e w' ⟨rfl,rfl⟩) | (go_at_call 138;refine C5.mono ?_;rintro e w' ⟨rfl,rfl⟩))
     all_goals (go_ret;exact⟨by rw[HR.out];rfl,FR _⟩)
    ·have h1' : ((c:Int) == (lowN c:Int))=false:=by simp;omega
     have HR:Hid _:=HC.out h1
     clear HA HB HC
     clear h1
     go_wp2_with (first | (go_at_call 137;refine (TL _).mono ?_;rintro e w' ⟨rfl,rfl⟩) | (go_at_call 138;refine C5.mono ?_;rintro e w' ⟨rfl,rfl⟩))
     all_goals
      go_roundw
      case rel=>exact⟨pos+1,0+n,hp,rfl,by go_num,by omega,HR⟩
      case measure=>rw[hmu,hmu2];omega
   ·have C5:=CC (some ad) 0 (k2 _ (Nat.le_refl _))
    clear CC k2
    simp only[Nat.sub_self] at C5
    by_cases h1:lowN c=c
    ·have h1' : ((c:Int) == (lowN c:Int))=true:=by rw[h1];simp
     have h2:n=0:=by omega
     have h2' : ((n:Int) == 0)=true:=by simp[h2]
     have HR:Hid _:=HA.out h1 h2
     clear HA HB HC
     clear h1
     clear h2
     go_wp2_with (first | (go_at_call 137;refine (TL _).mono ?_;rintro e w' ⟨rfl,rfl⟩) | (go_at_call 138;refine C5.mono ?_;rintro e w' ⟨rfl,rfl⟩))
     all_goals (go_ret;exact⟨by rw[HR.out];rfl,FR _⟩)
    ·have h1' : ((c:Int) == (lowN c:Int))=false:=by simp;omega
     have HR:Hid _:=HC.out h1
     clear HA HB HC
     clear h1
     go_wp2_with (first | (go_at_call 137;refine (TL _).mono ?_;rintro e w' ⟨rfl,rfl⟩) | (go_at_call 138;refine C5.mono ?_;rintro e w' ⟨rfl,rfl⟩))
     all_goals
      go_roundw
      case rel=>exact⟨pos+1,_,hp,rfl,by go_num,by omega,HR⟩
      case measure=>rw[hmu,hmu2];omega
   ·have C5:=CC (some (ad.add q)) (kc-q) ((hk.fr (FR _) (by simp)).drop q)
    clear CC k2 hk
    by_cases h1:lowN c=c
    ·have h1' : ((c:Int) == (lowN c:Int))=true:=by rw[h1];simp
     by_cases h2:n=0
     ·have h2' : ((n:Int) == 0)=true:=by simp[h2]
      have HR:Hid _:=HA.out h1 h2
      clear HA HB HC
      clear h1
      clear h2
      go_wp2_with (first | (go_at_call 137;refine (TL _).mono ?_;rintro e w' ⟨rfl,rfl⟩) | (go_at_call 138;refine C5.mono ?_;rintro e w' ⟨rfl,rfl⟩))
      all_goals (go_ret;exact⟨by rw[HR.out];rfl,FR _⟩)
     ·have h2' : ((n:Int) == 0)=false:=by simp[h2]
      have HR:Hid _:=HB.out h1 h2
      clear HA HB HC
      clear h1
      have hn0:0<n:=by omega
      clear h2
      go_wp2_with (first | (go_at_call 137;refine (TL _).mono ?_;rintro e w' ⟨rfl,rfl⟩) | (go_at_call 138;refine C5.mono ?_;rintro e w' ⟨rfl,rfl⟩))
      all_goals
       go_roundw
       case rel=>exact⟨pos+1,q+1,hp,rfl,by go_num,by omega,HR⟩
       case measure=>rw[hmu,hmu2];omega
    ·have h1' : ((c:Int) == (lowN c:Int))=false:=by simp;omega
     have HR:Hid _:=HC.out h1
     clear HA HB HC
     clear h1
     go_wp2_with (first | (go_at_call 137;refine (TL _).mono ?_;rintro e w' ⟨rfl,rfl⟩) | (go_at_call 138;refine C5.mono ?_;rintro e w' ⟨rfl,rfl⟩))
     all_goals
      go_roundw
      case rel=>exact⟨pos+1,q+n,hp,rfl,by go_num,by omega,HR⟩
      case measure=>rw[hmu,hmu2];omega
  ·have hnx:=fun ty=>run_next_end (P:=Tryz.prog) w s pos ty hp
   have HE:Hid (fitL s.data.toList K=decide (q=m)):=by
    unfold Hid
    rw[← he.out,drop_end s pos (by omega)]
    simp only[fitL]
    rw[Bool.eq_iff_iff]
    simp[HKl.out]
    omega
   go_wp2
   go_ret
   refine⟨?_,FR _⟩
   rw[HE.out]
   refine congrArg (fun b=>Ending.returned (Value.bool b)) ?_
   rw[Bool.eq_iff_iff]
   simp
   omega
end Go.Proofs.YtnmfcaahdeddnaaGreatDoor.T5
namespace Go.Proofs.YtnmfcaahdeddnaaGreatDoor.T5
open Go.RowKit
set_option maxRecDepth 100000
set_option linter.unusedVariables false
set_option linter.unusedSimpArgs false
theorem num_pos {s:ByteArray} {n:Nat} (h:num s=some n) : 0<s.size:=by
 refine Decidable.byContradiction fun hn=>?_
 have:s.data.toList = []:=by rw[← List.length_eq_zero_iff,← Lib.size_eq];omega
 rw[num,this] at h
 simp[numL,quotedL,valueL] at h
theorem un_toList (s:ByteArray) : unL s=unaries.contains s.toList:=by rw[Lib.toList_data];rfl
theorem bin_toList (s:ByteArray) : binL s=binaries.contains s.toList:=by rw[Lib.toList_data];rfl
theorem isUnary_any (s:ByteArray) (w:World) :
 Calls Tryz.prog 135 #[.string s] w fun e w'=>e = .returned (.bool (unL s))∧w' = w:=by
 have hu:=un_toList s
 generalize unL s=R at hu ⊢
 go_enter Tryz.func135,Tryz.ntmps135
 go_wp2
 all_goals go_ret
 all_goals refine⟨congrArg (fun b=>Ending.returned (Value.bool b)) ?_,rfl⟩
 all_goals (simp_all [unaries])
theorem isBin_any (s:ByteArray) (w:World) :
 Calls Tryz.prog 136 #[.string s] w fun e w'=>e = .returned (.bool (binL s))∧w' = w:=by
 have hu:=bin_toList s
 generalize binL s=R at hu ⊢
 go_enter Tryz.func136,Tryz.ntmps136
 go_wp2
 all_goals go_ret
 all_goals refine⟨congrArg (fun b=>Ending.returned (Value.bool b)) ?_,rfl⟩
 all_goals (simp_all [binaries])
theorem isDecimal_any (s:ByteArray) (w:World) (hs:s.size≤maxLen) :
 Calls Tryz.prog 134 #[.string s] w fun e w'=>e = .returned (.bool (decL s))∧w' = w:=by
 have C:=fun w=>number_any s w hs
 unfold decL
 cases hn:num s with
 | none =>
   rw[hn] at C
   go_enter Tryz.func134,Tryz.ntmps134
   go_wp2_with (go_at_call 172;refine (C _).mono ?_;rintro e w' ⟨he,rfl⟩;rw[nOut] at he;subst he)
   go_ret
   exact⟨rfl,rfl⟩
 | some n =>
   rw[hn] at C
   have hp:=num_pos hn
   obtain⟨l,hl⟩:=head_of hp
   have hb:=byte_lt s[0]
   have e1:(s.toList == [48])=decide (s.data.toList = [48]):=by rw[Lib.toList_data,Bool.eq_iff_iff];simp
   have e2:s.data.toList.headD 0=s[0]:=by rw[hl];rfl
   rw[e2,← e1]
   simp only[Option.isSome_some,Bool.true_and]
   clear e1 e2 hl hn
   go_enter Tryz.func134,Tryz.ntmps134
   go_wp2_with (go_at_call 172;refine (C _).mono ?_;rintro e w' ⟨he,rfl⟩;rw[nOut] at he;subst he)
   all_goals go_ret
   all_goals refine⟨congrArg (fun b=>Ending.returned (Value.bool b)) ?_,rfl⟩
   ·simp_all
   ·rename_i h1 h2
    have e:decide (49≤s[0].toNat∧s[0].toNat≤57)=decide ((s[0].toNat:Int)≤57):=by rw[decide_eq_decide];omega
    rw[e]
   ·rename_i h1 h2
    have e:decide (49≤s[0].toNat)=false:=by rw[decide_eq_false_iff_not];omega
    rw[e];simp
theorem textFits_any (t:Nat) (ht:t≤4) (s:ByteArray) (w:World) (hs:s.size≤maxLen) (T:Tabs w) :
 Calls Tryz.prog 84 #[.int .i64 t,.string s] w fun e w'=>e = .returned (.bool (textL t s))∧w' = w:=by
 have hE:s.toList.isEmpty=noneL s:=by rw[Lib.toList_data];rfl
 match t,ht with
 | 0,_ =>
   go_enter Tryz.func84,Tryz.ntmps84
   go_wp2
   go_ret
   exact⟨congrArg (fun b=>Ending.returned (Value.bool b)) (by first | rfl | exact hE),rfl⟩
 | 1,_ =>
   go_enter Tryz.func84,Tryz.ntmps84
   go_wp2_with (go_at_call 133;refine (name_any s _ hs T).mono ?_;rintro e w' ⟨rfl,rfl⟩)
   go_ret
   exact⟨rfl,rfl⟩
 | 2,_ =>
   go_enter Tryz.func84,Tryz.ntmps84
   go_wp2_with (go_at_call 134;refine (isDecimal_any s _ hs).mono ?_;rintro e w' ⟨rfl,rfl⟩)
   go_ret
   exact⟨rfl,rfl⟩
 | 3,_ =>
   go_enter Tryz.func84,Tryz.ntmps84
   go_wp2_with (go_at_call 135;refine (isUnary_any s _).mono ?_;rintro e w' ⟨rfl,rfl⟩)
   go_ret
   exact⟨rfl,rfl⟩
 | 4,_ =>
   go_enter Tryz.func84,Tryz.ntmps84
   go_wp2_with (go_at_call 136;refine (isBin_any s _).mono ?_;rintro e w' ⟨rfl,rfl⟩)
   go_ret
   exact⟨rfl,rfl⟩
def TB (w:World) (g:Nat) (T:List Bool) : Prop:=w.heap[g]? = some (.cells (T.map Value.bool).toArray 4 (0,0))
theorem TB.fr {w w' : World} {g:Nat} {T:List Bool} {S:List Nat} (h:TB w g T) (f:Fr S w w') (hg:g∉S) : TB w' g T :=
 (f.block g (Array.getElem?_eq_some_iff.1 h).1 hg).trans h
theorem TB.lt {w:World} {g:Nat} {T:List Bool} (h:TB w g T) : g<w.heap.size:=(Array.getElem?_eq_some_iff.1 h).1
theorem TB.fz {w:World} {g:Nat} {T:List Bool} (h:TB w g T) (i:Nat) : w.frozen? ⟨g,i,none⟩=false:=by unfold TB at h;simp[World.frozen?,h]
theorem TB.cell {w:World} {g:Nat} {T:List Bool} (h:TB w g T) {i:Nat} (hi:i<T.length) : w.cell? ⟨g,i,none⟩=some (.bool (T.getD i false)):=by
 unfold TB at h
 simp[World.cell?,h,hi,List.getD_eq_getElem?_getD]
theorem TB.set {w:World} {g:Nat} {T:List Bool} (h:TB w g T) (i:Nat) (v:Bool) : TB (w.setCell ⟨g,i,none⟩ (.bool v)) g (T.set i v):=by
 unfold TB
 rw[heap_setCell_same _ _ _ _ _ _ h]
 congr 2
 simp[List.map_set]
set_option maxHeartbeats 1000000 in
theorem take_any (B:Nat) (ks:List Int) (ka:Option Addr) (m kc n:Nat) (w:World) (hkm:ks.length=m) (hk:KAt B w ka ks) (hkl:m≤maxLen) (g:Nat) (T:List Bool) (tl tc:Nat) (hT:TB w g T) (htl:T.length=tl) (hn:n≤tl) (htm:tl≤maxLen) (hg:B≤g) :
 Calls Tryz.prog 83 #[.slice ka m kc,.int .i64 n,.slice (some ⟨g,0,none⟩) tl tc] w fun e w'=>e = .returned (.bool (takeL n ks T).isSome)∧Fr [g] w w'∧∀ T',takeL n ks T=some T'→TB w' g T' := by
 have HK:Hid (ks.length=m):=hkm
 have HT:Hid (T.length=tl):=htl
 unfold maxLen at hkl htm
 clear hkm htl
 go_enter Tryz.func83,Tryz.ntmps83
 go_wp2
 go_loopw [11] (fun i wr=>∃ p:Nat,p≤m∧i = .int .i64 p∧Fr [g] w wr∧∃ U:List Bool,TB wr g U∧U.length=tl∧Hid (takeL n (ks.drop p) U=takeL n ks T)) (fun i _=>m-(intOf i).toNat)
 case atStart=>exact⟨0,Nat.zero_le _,rfl,Fr.refl _ _,T,hT,HT.out,rfl⟩
 case round =>
  obtain⟨p,hp,rfl,fw,U,hU,hUl,he⟩:=hrel
  have HU:Hid (U.length=tl):=hUl
  clear hUl
  by_cases hlt:p<m
  ·have hx:ks[p]? = some (ks[p]'(by rw[HK.out];exact hlt)):=List.getElem?_eq_getElem _
   have hd:=List.drop_eq_getElem_cons (show p<ks.length by rw[HK.out];exact hlt)
   generalize ks[p]'(by rw[HK.out];exact hlt)=k at hx hd
   obtain⟨b,o,rfl,hb,hcell⟩:=(hk.fr fw (by simp;omega)) p _ hx
   have HE:Hid (takeL n (k::ks.drop (p+1)) U=takeL n ks T):=by unfold Hid;rw[← he.out,hd]
   have HS:Hid (k<0∨(n:Int)≤k∨U.getD k.toNat false=true→takeL n ks T=none):=fun h=>by rw[← HE.out,takeL,if_pos h]
   have HG:Hid (¬ (k<0∨(n:Int)≤k∨U.getD k.toNat false=true)→takeL n (ks.drop (p+1)) (U.set k.toNat true)=takeL n ks T):=fun h=>by rw[← HE.out,takeL,if_neg h]
   clear HE he hd hx hk
   by_cases h1:k<0
   ·have HR:Hid _:=HS.out (.inl h1)
    clear HS HG
    go_wp2
    go_ret
    exact⟨by rw[HR.out];rfl,fw,fun T' h=>by rw[HR.out] at h;cases h⟩
   ·by_cases h2:(n:Int)≤k
    ·have HR:Hid _:=HS.out (.inr (.inl h2))
     clear HS HG
     go_wp2
     go_ret
     exact⟨by rw[HR.out];rfl,fw,fun T' h=>by rw[HR.out] at h;cases h⟩
    ·obtain⟨q,rfl⟩:=Int.eq_ofNat_of_zero_le (show 0≤k by omega)
     have hqn:q<n:=by omega
     have hc:=hU.cell (i:=q) (by rw[HU.out];omega)
     simp only[Int.toNat_natCast] at HS HG
     cases h3:U.getD q false with
     | true =>
       have HR:Hid _:=HS.out (.inr (.inr h3))
       rw[h3] at hc
       clear HS HG h3
       go_wp2
       go_ret
       exact⟨by rw[HR.out];rfl,fw,fun T' h=>by rw[HR.out] at h;cases h⟩
     | false =>
       have HR:Hid _:=HG.out (by rw[h3];simp;omega)
       rw[h3] at hc
       have hS:=hU.set q true
       have hfz:=hU.fz q
       clear HS HG h3
       go_wp2
       go_roundw
       case rel=>exact⟨p+1,hlt,by go_num,fw.setCell (.inl (by simp)) _,U.set q true,hS,by rw[List.length_set];exact HU.out,HR⟩
       case measure=>simp[intOf];omega
  ·have HE:Hid (takeL n ks T=some U):=by
    unfold Hid
    rw[← he.out,List.drop_of_length_le (by rw[HK.out];omega)]
    rfl
   go_wp2
   go_ret
   exact⟨by rw[HE.out];rfl,fw,fun T' h=>by rw[HE.out] at h;injection h with h;rw[← h];exact hU⟩
def valW (t:Nat) (s:List UInt8) : Value:=.agg #[.int .i64 t,.string ⟨s.toArray⟩]
def EsL:List (Int×Nat×List UInt8)→Nat→List MapEntry
 | [],_=>[]
 | x::r,b=>⟨.int .i64 x.1,valW x.2.1 x.2.2,b⟩::EsL r (b+1)
def Es (n:Nat) : Array MapEntry:=(EsL (wantsL.take n) 0).toArray
theorem EsL_snoc:∀ (l:List (Int×Nat×List UInt8)) (x:Int×Nat×List UInt8) (b:Nat),EsL (l++[x]) b=EsL l b++[⟨.int .i64 x.1,valW x.2.1 x.2.2,b+l.length⟩]
 | [],x,b=>rfl
 | y::l,x,b=>by
   simp only[List.cons_append,EsL,EsL_snoc l x (b+1),List.length_cons]
   rw[show b+1+l.length=b+(l.length+1) by omega]
theorem find_none (k:Int) : ∀ (l:List (Int×Nat×List UInt8)) (b i:Nat),l.lookup k=none→Instr.findNow (.int .i64) (.int .i64 k) (EsL l b) i=some none
 | [],b,i,h=>rfl
 | x::l,b,i,h=>by
   obtain⟨a,v⟩:=x
   rw[List.lookup_cons] at h
   cases hk:(k == a) with
   | true=>rw[hk] at h;cases h
   | false =>
     rw[hk] at h
     simp only[EsL,Instr.findNow,Instr.sameNow,if_true,hk]
     exact find_none k l (b+1) (i+1) h
theorem find_some (k:Int) (t:Nat) (s:List UInt8) : ∀ (l:List (Int×Nat×List UInt8)) (b i:Nat),l.lookup k=some (t,s)→∃ j,Instr.findNow (.int .i64) (.int .i64 k) (EsL l b) i=some (some (j,valW t s))
 | [],b,i,h=>by cases h
 | x::l,b,i,h=>by
   obtain⟨a,v⟩:=x
   rw[List.lookup_cons] at h
   cases hk:(k == a) with
   | true =>
     rw[hk] at h
     cases h
     exact⟨i,by simp only[EsL,Instr.findNow,Instr.sameNow,if_true,hk]⟩
   | false =>
     rw[hk] at h
     obtain⟨j,hj⟩:=find_some k t s l (b+1) (i+1) h
     exact⟨j,by simp only[EsL,Instr.findNow,Instr.sameNow,if_true,hk];exact hj⟩
theorem check3 (e:Bool) (v:Int) (w:World) : (Instr.checkKey e 10000 3 (.int .i64 v)).run Tryz.prog w = .ok () w:=by
 have h:∀ n,(Instr.checkKey e (n+1) 3 (.int .i64 v)).run Tryz.prog w = .ok () w:=by
  intro n
  simp[Instr.checkKey,run_underlying Tryz.underlying3]
 exact h 9999
theorem alloc_set (w:World) (o o' : Obj) : { w.alloc o with heap:=(w.alloc o).heap.setIfInBounds w.heap.size o' } = w.alloc o' := by
 simp only[World.alloc]
 congr 1
 apply Array.ext'
 simp[Array.setIfInBounds,Array.toList_push]
theorem zero59 (w:World) : (zeroValue 141).run Tryz.prog w = .ok (.agg #[.int .i64 0,.string ⟨#[]⟩]) w:=by kernel_rfl
theorem under42:Tryz.prog.underlying 99=some (.map 3 141):=by kernel_rfl
theorem ins_any (w:World) (l:List (Int×Nat×List UInt8)) (x:Int×Nat×List UInt8) (h:l.lookup x.1=none) :
 (Instr.mapUpdate 99 (.map (some w.heap.size)) (.int .i64 x.1) (valW x.2.1 x.2.2)).run Tryz.prog (w.alloc (.map (EsL l 0).toArray l.length)) = .ok () (w.alloc (.map (EsL (l++[x]) 0).toArray (l.length+1))):=by
 have hf:=find_none x.1 l 0 0 h
 have hb:(w.alloc (.map (EsL l 0).toArray l.length)).heap[w.heap.size]? = some (.map (EsL l 0).toArray l.length):=heap_alloc_new w _
 have hset:=MapKept.run_setObj_map (P:=Tryz.prog) (.map ((EsL l 0).toArray.push ⟨.int .i64 x.1,valW x.2.1 x.2.2,l.length⟩) (l.length+1)) hb
 rw[alloc_set] at hset
 simp only[Instr.mapUpdate,run_underlying under42,Sem.run_bind,Result.andThen,MapKept.run_getObj_map hb,check3,Instr.findKey,run_underlying Tryz.underlying3,hf,EsL_snoc,Sem.run_pure,hset]
 simp
theorem lookups:∀ i,i<30→∀ x,wantsL[i]? = some x→(wantsL.take i).lookup x.1=none:=by
 intro i hi x hx
 have:∀ i:Fin 30,(match wantsL[i.1]? with | some x=>(wantsL.take i.1).lookup x.1 | none=>none)=none:=by decide
 have:=this ⟨i,hi⟩
 simp only[hx] at this
 exact this
theorem ins (w:World) (i:Nat) (h:i<30) :
 (Instr.mapUpdate 99 (.map (some w.heap.size)) (.int .i64 (wantsL.getD i (0,0,[])).1) (valW (wantsL.getD i (0,0,[])).2.1 (wantsL.getD i (0,0,[])).2.2)).run Tryz.prog (w.alloc (.map (Es i) i)) = .ok () (w.alloc (.map (Es (i+1)) (i+1))):=by
 have hl:wantsL.length=30:=rfl
 have hx:wantsL[i]? = some (wantsL.getD i (0,0,[])):=by simp[List.getD_eq_getElem?_getD,hl,h]
 have e:wantsL.take (i+1)=wantsL.take i++[wantsL.getD i (0,0,[])]:=by rw[List.take_add_one,hx];rfl
 have:=ins_any w (wantsL.take i) _ (lookups i h _ hx)
 rw[← e] at this
 rw[show (wantsL.take i).length=i by simp[hl];omega] at this
 exact this
def WM (w:World) (g:Nat) : Prop:=w.heap[g]? = some (.map (Es 30) 30)
theorem WM.fr {w w' : World} {g:Nat} {S:List Nat} (h:WM w g) (f:Fr S w w') (hg:g∉S) : WM w' g :=
 (f.block g (Array.getElem?_eq_some_iff.1 h).1 hg).trans h
theorem Es30:(Es 30).toList=EsL wantsL 0:=rfl
theorem WM.none {w:World} {g:Nat} (h:WM w g) {k:Int} (hk:wantL k=none) : (Instr.lookup 99 (.map (some g)) (.int .i64 k) true).run Tryz.prog w = .ok (.tuple #[.agg #[.int .i64 0,.string ⟨#[]⟩],.bool false]) w:=by
 have hf:=find_none k wantsL 0 0 hk
 unfold WM at h
 simp[Instr.lookup,run_underlying under42,MapKept.run_getObj_map h,check3,Instr.findKey,run_underlying Tryz.underlying3,Es30,hf,zero59,Result.andThen]
theorem WM.some {w:World} {g:Nat} (h:WM w g) {k:Int} {t:Nat} {s:List UInt8} (hk:wantL k=some (t,s)) : (Instr.lookup 99 (.map (some g)) (.int .i64 k) true).run Tryz.prog w = .ok (.tuple #[.agg #[.int .i64 t,.string ⟨s.toArray⟩],.bool true]) w:=by
 obtain⟨j,hf⟩:=find_some k t s wantsL 0 0 hk
 unfold WM at h
 simp[Instr.lookup,run_underlying under42,MapKept.run_getObj_map h,check3,Instr.findKey,run_underlying Tryz.underlying3,Es30,hf,valW,Result.andThen]
set_option maxHeartbeats 1000000 in
theorem wants_any (w:World) :
 Calls Tryz.prog 47 #[] w fun e w'=>e = .returned (.map (some w.heap.size))∧w' = w.alloc (.map (Es 30) 30):=by
 have hmk:(Instr.makeMap 99 none).run Tryz.prog w = .ok (.map (some w.heap.size)) (w.alloc (.map (Es 0) 0)):=rfl
 have i0:(Instr.mapUpdate 99 (.map (some w.heap.size)) (.int .i64 1) (.agg #[.int .i64 0,.string ⟨#[68]⟩])).run Tryz.prog (w.alloc (.map (Es 0) 0)) = .ok () (w.alloc (.map (Es 1) 1)):=ins w 0 (by decide)
 have i1:(Instr.mapUpdate 99 (.map (some w.heap.size)) (.int .i64 2) (.agg #[.int .i64 1,.string ⟨#[78]⟩])).run Tryz.prog (w.alloc (.map (Es 1) 1)) = .ok () (w.alloc (.map (Es 2) 2)):=ins w 1 (by decide)
 have i2:(Instr.mapUpdate 99 (.map (some w.heap.size)) (.int .i64 3) (.agg #[.int .i64 1,.string ⟨#[78,98]⟩])).run Tryz.prog (w.alloc (.map (Es 2) 2)) = .ok () (w.alloc (.map (Es 3) 3)):=ins w 2 (by decide)
 have i3:(Instr.mapUpdate 99 (.map (some w.heap.size)) (.int .i64 4) (.agg #[.int .i64 0,.string ⟨#[83]⟩])).run Tryz.prog (w.alloc (.map (Es 3) 3)) = .ok () (w.alloc (.map (Es 4) 4)):=ins w 3 (by decide)
 have i4:(Instr.mapUpdate 99 (.map (some w.heap.size)) (.int .i64 5) (.agg #[.int .i64 1,.string ⟨#[101]⟩])).run Tryz.prog (w.alloc (.map (Es 4) 4)) = .ok () (w.alloc (.map (Es 5) 5)):=ins w 4 (by decide)
 have i5:(Instr.mapUpdate 99 (.map (some w.heap.size)) (.int .i64 6) (.agg #[.int .i64 0,.string ⟨#[112,101]⟩])).run Tryz.prog (w.alloc (.map (Es 5) 5)) = .ok () (w.alloc (.map (Es 6) 6)):=ins w 5 (by decide)
 have i6:(Instr.mapUpdate 99 (.map (some w.heap.size)) (.int .i64 7) (.agg #[.int .i64 0,.string ⟨#[101,98,111]⟩])).run Tryz.prog (w.alloc (.map (Es 6) 6)) = .ok () (w.alloc (.map (Es 7) 7)):=ins w 6 (by decide)
 have i7:(Instr.mapUpdate 99 (.map (some w.heap.size)) (.int .i64 8) (.agg #[.int .i64 0,.string ⟨#[101,98]⟩])).run Tryz.prog (w.alloc (.map (Es 7) 7)) = .ok () (w.alloc (.map (Es 8) 8)):=ins w 7 (by decide)
 have i8:(Instr.mapUpdate 99 (.map (some w.heap.size)) (.int .i64 9) (.agg #[.int .i64 0,.string ⟨#[101]⟩])).run Tryz.prog (w.alloc (.map (Es 8) 8)) = .ok () (w.alloc (.map (Es 9) 9)):=ins w 8 (by decide)
 have i9:(Instr.mapUpdate 99 (.map (some w.heap.size)) (.int .i64 10) (.agg #[.int .i64 0,.string ⟨#[101]⟩])).run Tryz.prog (w.alloc (.map (Es 9) 9)) = .ok () (w.alloc (.map (Es 10) 10)):=ins w 9 (by decide)
 have i10:(Instr.mapUpdate 99 (.map (some w.heap.size)) (.int .i64 11) (.agg #[.int .i64 0,.string ⟨#[101]⟩])).run Tryz.prog (w.alloc (.map (Es 10) 10)) = .ok () (w.alloc (.map (Es 11) 11)):=ins w 10 (by decide)
 have i11:(Instr.mapUpdate 99 (.map (some w.heap.size)) (.int .i64 12) (.agg #[.int .i64 0,.string ⟨#[99]⟩])).run Tryz.prog (w.alloc (.map (Es 11) 11)) = .ok () (w.alloc (.map (Es 12) 12)):=ins w 11 (by decide)
 have i12:(Instr.mapUpdate 99 (.map (some w.heap.size)) (.int .i64 13) (.agg #[.int .i64 0,.string ⟨#[78]⟩])).run Tryz.prog (w.alloc (.map (Es 12) 12)) = .ok () (w.alloc (.map (Es 13) 13)):=ins w 12 (by decide)
 have i13:(Instr.mapUpdate 99 (.map (some w.heap.size)) (.int .i64 14) (.agg #[.int .i64 0,.string ⟨#[]⟩])).run Tryz.prog (w.alloc (.map (Es 13) 13)) = .ok () (w.alloc (.map (Es 14) 14)):=ins w 13 (by decide)
 have i14:(Instr.mapUpdate 99 (.map (some w.heap.size)) (.int .i64 15) (.agg #[.int .i64 2,.string ⟨#[]⟩])).run Tryz.prog (w.alloc (.map (Es 14) 14)) = .ok () (w.alloc (.map (Es 15) 15)):=ins w 14 (by decide)
 have i15:(Instr.mapUpdate 99 (.map (some w.heap.size)) (.int .i64 16) (.agg #[.int .i64 0,.string ⟨#[]⟩])).run Tryz.prog (w.alloc (.map (Es 15) 15)) = .ok () (w.alloc (.map (Es 16) 16)):=ins w 15 (by decide)
 have i16:(Instr.mapUpdate 99 (.map (some w.heap.size)) (.int .i64 17) (.agg #[.int .i64 1,.string ⟨#[]⟩])).run Tryz.prog (w.alloc (.map (Es 16) 16)) = .ok () (w.alloc (.map (Es 17) 17)):=ins w 16 (by decide)
 have i17:(Instr.mapUpdate 99 (.map (some w.heap.size)) (.int .i64 18) (.agg #[.int .i64 3,.string ⟨#[101]⟩])).run Tryz.prog (w.alloc (.map (Es 17) 17)) = .ok () (w.alloc (.map (Es 18) 18)):=ins w 17 (by decide)
 have i18:(Instr.mapUpdate 99 (.map (some w.heap.size)) (.int .i64 19) (.agg #[.int .i64 4,.string ⟨#[101,101]⟩])).run Tryz.prog (w.alloc (.map (Es 18) 18)) = .ok () (w.alloc (.map (Es 19) 19)):=ins w 18 (by decide)
 have i19:(Instr.mapUpdate 99 (.map (some w.heap.size)) (.int .i64 20) (.agg #[.int .i64 1,.string ⟨#[101]⟩])).run Tryz.prog (w.alloc (.map (Es 19) 19)) = .ok () (w.alloc (.map (Es 20) 20)):=ins w 19 (by decide)
 have i20:(Instr.mapUpdate 99 (.map (some w.heap.size)) (.int .i64 21) (.agg #[.int .i64 0,.string ⟨#[101,101]⟩])).run Tryz.prog (w.alloc (.map (Es 20) 20)) = .ok () (w.alloc (.map (Es 21) 21)):=ins w 20 (by decide)
 have i21:(Instr.mapUpdate 99 (.map (some w.heap.size)) (.int .i64 22) (.agg #[.int .i64 1,.string ⟨#[69]⟩])).run Tryz.prog (w.alloc (.map (Es 21) 21)) = .ok () (w.alloc (.map (Es 22) 22)):=ins w 21 (by decide)
 have i22:(Instr.mapUpdate 99 (.map (some w.heap.size)) (.int .i64 23) (.agg #[.int .i64 1,.string ⟨#[]⟩])).run Tryz.prog (w.alloc (.map (Es 22) 22)) = .ok () (w.alloc (.map (Es 23) 23)):=ins w 22 (by decide)
 have i23:(Instr.mapUpdate 99 (.map (some w.heap.size)) (.int .i64 24) (.agg #[.int .i64 0,.string ⟨#[101]⟩])).run Tryz.prog (w.alloc (.map (Es 23) 23)) = .ok () (w.alloc (.map (Es 24) 24)):=ins w 23 (by decide)
 have i24:(Instr.mapUpdate 99 (.map (some w.heap.size)) (.int .i64 25) (.agg #[.int .i64 0,.string ⟨#[101]⟩])).run Tryz.prog (w.alloc (.map (Es 24) 24)) = .ok () (w.alloc (.map (Es 25) 25)):=ins w 24 (by decide)
 have i25:(Instr.mapUpdate 99 (.map (some w.heap.size)) (.int .i64 26) (.agg #[.int .i64 0,.string ⟨#[]⟩])).run Tryz.prog (w.alloc (.map (Es 25) 25)) = .ok () (w.alloc (.map (Es 26) 26)):=ins w 25 (by decide)
 have i26:(Instr.mapUpdate 99 (.map (some w.heap.size)) (.int .i64 27) (.agg #[.int .i64 0,.string ⟨#[101]⟩])).run Tryz.prog (w.alloc (.map (Es 26) 26)) = .ok () (w.alloc (.map (Es 27) 27)):=ins w 26 (by decide)
 have i27:(Instr.mapUpdate 99 (.map (some w.heap.size)) (.int .i64 28) (.agg #[.int .i64 0,.string ⟨#[]⟩])).run Tryz.prog (w.alloc (.map (Es 27) 27)) = .ok () (w.alloc (.map (Es 28) 28)):=ins w 27 (by decide)
 have i28:(Instr.mapUpdate 99 (.map (some w.heap.size)) (.int .i64 29) (.agg #[.int .i64 0,.string ⟨#[101]⟩])).run Tryz.prog (w.alloc (.map (Es 28) 28)) = .ok () (w.alloc (.map (Es 29) 29)):=ins w 28 (by decide)
 have i29:(Instr.mapUpdate 99 (.map (some w.heap.size)) (.int .i64 30) (.agg #[.int .i64 0,.string ⟨#[]⟩])).run Tryz.prog (w.alloc (.map (Es 29) 29)) = .ok () (w.alloc (.map (Es 30) 30)):=ins w 29 (by decide)
 go_enter Tryz.func47,Tryz.ntmps47
 go_wp2
 go_ret
 exact⟨rfl,rfl⟩
theorem take_in {n:Nat} : ∀ (ks:List Int) (T T' : List Bool),takeL n ks T=some T'→∀ k∈ks,0≤k∧k<n
 | [],T,T',h,k,hk=>by simp at hk
 | q::r,T,T',h,k,hk=>by
   simp only[takeL] at h
   split at h
   ·cases h
   ·rename_i hn
    rcases List.mem_cons.1 hk with rfl | hk
    ·omega
    ·exact take_in r _ _ h k hk
theorem lookup_mem {k:Int} {v:Nat×List UInt8} : ∀ (l:List (Int×Nat×List UInt8)),l.lookup k=some v→(k,v)∈l
 | [],h=>by cases h
 | (a,b)::l,h=>by
   rw[List.lookup_cons] at h
   cases hk:(k == a) with
   | true=>rw[hk] at h;cases h;have:k=a:=by simpa using hk
           subst this;simp
   | false=>rw[hk] at h;exact List.mem_cons_of_mem _ (lookup_mem l h)
theorem want_fine {k:Int} {t:Nat} {ls:List UInt8} (h:wantL k=some (t,ls)) : t≤4∧ls.length≤3∧∀ c∈ls,c.toNat<128:=by
 have:∀ x∈wantsL,x.2.1≤4∧x.2.2.length≤3∧∀ c∈x.2.2,c.toNat<128:=by decide
 exact this _ (lookup_mem _ h)
theorem ascii_of {ls:List UInt8} (h:∀ c∈ls,c.toNat<128) : ∀ i (hi:i<(⟨ls.toArray⟩ : ByteArray).size),((⟨ls.toArray⟩ : ByteArray)[i]'hi).toNat<128:=by
 intro i hi
 have hi' : i<ls.length:=hi
 exact h _ (List.getElem_mem hi')
def errOf {α:Type} : Except Nat α→Nat
 | .error e=>e
 | .ok _=>0
set_option maxHeartbeats 2000000 in
theorem checkNode_any (B:Nat) (L:List Nd) (w:World) (a:Option Addr) (len cap:Nat) (hlen:L.length=len) (hL:NAt B w a L) (hm:len≤maxLen) (hB:B≤w.heap.size)
 (i:Nat) (x:Nd) (hx:L[i]? = some x) (mg g:Nat) (T:List Bool) (tc:Nat) (hM:WM w mg) (hT:TB w g T) (hTl:T.length=len) (hg:B≤g) (TT:Tabs w) (h2:7≤g) (hmg:mg≠g) :
 Calls Tryz.prog 48 #[.slice a len cap,.int .i64 i,.map (some mg),.slice (some ⟨g,0,none⟩) len tc] w fun e w'=>e = .returned (.int .i64 (errOf (nodeE L i x T)))∧Fr [g] w w'∧∀ T',nodeE L i x T = .ok T'→TB w' g T' := by
 have hil:i<len:=by rw[← hlen];exact (List.getElem?_eq_some_iff.1 hx).1
 obtain⟨b,o,rfl,hb,hN⟩:=hL i x hx
 have hbl:b<w.heap.size:=by omega
 have HN:Hid (nodeE L i x T=nodeE L i x T):=rfl
 have hm' := hm
 unfold maxLen at hm'
 cases hw:wantL x.kind with
 | none =>
   have HE:Hid (nodeE L i x T = .error 50):=by unfold Hid nodeE;rw[hw]
   have hlk:=hM.none hw
   obtain⟨c0,c1,c2,c3,hk,ht,hkl,hkc,hkn⟩:=hN
   rw[HE.out]
   clear HN hL HE
   go_enter Tryz.func48,Tryz.ntmps48
   go_wp2
   go_ret
   exact⟨rfl,(Fr.refl _ _).alloc _,fun T' h=>by cases h⟩
 | some tl =>
   obtain⟨t,ls⟩:=tl
   have hlk:=hM.some hw
   obtain⟨ft,fl,fc⟩:=want_fine hw
   by_cases hp:x.pl<0
   ·have HE:Hid (nodeE L i x T = .error 50):=by unfold Hid nodeE;rw[hw];simp[hp]
    obtain⟨c0,c1,c2,c3,hk,ht,hkl,hkc,hkn⟩:=hN
    rw[HE.out]
    clear HN hL HE
    go_enter Tryz.func48,Tryz.ntmps48
    go_wp2
    go_ret
    exact⟨rfl,(Fr.refl _ _).alloc _,fun T' h=>by cases h⟩
   ·have f0:Fr [] w (w.alloc (.cells #[.int .i64 t,.string ⟨ls.toArray⟩] 141)):=(Fr.refl _ _).alloc _
    have f0' : Fr [g] w (w.alloc (.cells #[.int .i64 t,.string ⟨ls.toArray⟩] 141)):=(Fr.refl _ _).alloc _
    have b0:(w.alloc (.cells #[.int .i64 t,.string ⟨ls.toArray⟩] 141)).heap[w.heap.size]? = some (.cells #[.int .i64 t,.string ⟨ls.toArray⟩] 141):=heap_alloc_new w _
    have TK:=take_any B x.ks x.a x.ks.length x.c i _ rfl (hN.k.fr f0 (by simp)) hN.kl g T len tc (hT.fr f0 (by simp)) hTl (by omega) hm hg
    have HG:Hid (g<w.heap.size):=hT.lt
    have hNN:=hN
    obtain⟨c0,c1,c2,c3,hk,ht,hkl,hkc,hkn⟩:=hN
    go_enter Tryz.func48,Tryz.ntmps48
    go_wp2_with fail
    refine TK.mono ?_
    rintro e w1 ⟨rfl,f1,hT1⟩
    have F1:Fr [g] w w1:=f0'.trans f1
    have hk1:w1.heap[w.heap.size]? = some (.cells #[.int .i64 t,.string ⟨ls.toArray⟩] 141):=(f1.block w.heap.size (by simp) (by have:=HG.out;simp;omega)).trans b0
    clear TK hlk f0 f0' f1 b0 hk
    cases hk' : takeL i x.ks T with
    | none =>
      have HE:Hid (nodeE L i x T = .error 50):=by unfold Hid nodeE;rw[hw];simp[hp,hk']
      clear HN hL
      go_wp2
      go_ret
      exact⟨by rw[HE.out];rfl,F1,fun T' h=>by rw[HE.out] at h;cases h⟩
    | some T' =>
      have hT2:=hT1 T' hk'
      have hin:=take_in _ _ _ hk'
      have N1:=hNN.fr F1 hb (by simpa using hg)
      have L1:=hL.fr F1 (by simpa using hg)
      have TT1:=TT.fr F1 (by simpa using h2)
      have hz1:=F1.size
      have v0:∀ w',Fr [] w1 w'→w'.cell? ⟨w.heap.size,0,none⟩=some (.int .i64 t):=fun w' f=>by
       have:=(f.block _ (Array.getElem?_eq_some_iff.1 hk1).1 (by simp)).trans hk1
       simp[World.cell?,this]
      have v1:∀ w',Fr [] w1 w'→w'.cell? ⟨w.heap.size,1,none⟩=some (.string ⟨ls.toArray⟩):=fun w' f=>by
       have:=(f.block _ (Array.getElem?_eq_some_iff.1 hk1).1 (by simp)).trans hk1
       simp[World.cell?,this]
      have n1:∀ w',Fr [] w1 w'→w'.cell? ⟨b,o+i*4+1,none⟩=some (.string x.text):=fun w' f=>f.cell1 N1.c1 (by simp)
      have n2:∀ w',Fr [] w1 w'→w'.cell? ⟨b,o+i*4+2,none⟩=some (.slice x.a x.ks.length x.c):=fun w' f=>f.cell1 N1.c2 (by simp)
      have C34:=fun w' (f:Fr [] w1 w')=>textFits_any t ft x.text w' ht (TT1.fr f (by simp))
      have C35:=fun w' (f:Fr [] w1 w')=>kidsFit_any ⟨ls.toArray⟩ (by show ls.length≤_;unfold maxLen;omega) (ascii_of fc) B L w' (some ⟨b,o,none⟩) len cap hlen (L1.fr f (by simp)) hm (by have:=f.size;omega) x.ks x.a x.ks.length x.c rfl ((N1.fr f hb (by simp)).k) hkl hkc hkn (fun k hk=>by have:=hin k hk;omega)
      have HT2:Hid (TB w1 g T'):=hT2
      clear hT1 hT2 hin N1 L1 TT1 hNN hL c0 c1 c2 c3 hlen hTl hx
      have HE:Hid (nodeE L i x T=if textL t x.text=false then .error 52 else if fitL ls (x.ks.map (kd L))=false then .error 53 else .ok T'):=by unfold Hid nodeE;rw[hw];simp only[hk'];rw[if_neg (by omega)]
      clear HN hk' hw
      generalize hRt:textL t x.text=rt at *
      generalize hRf:fitL ls (x.ks.map (kd L))=rf at *
      have hb1:b<w1.heap.size:=by omega
      go_wp2
      go_region_held3 (fun w'=>Fr [] w1 w')
       (with_reducible (first | assumption | exact Fr.drew (Fr.refl _ _)))
       (first
        | (go_at_call 84;refine (C34 _ (by assumption)).mono ?_;rintro e w10 ⟨rfl,rfl⟩))
      all_goals
       rename_i hH
       cases rt with
       | false =>
         have HR:Hid (nodeE L i x T = .error 52):=HE
         clear HE C34 C35 v0 v1 n1 n2 hRt hRf
         go_wp2
         go_ret
         exact⟨by rw[HR.out];rfl,F1.drew,fun T'' h=>by rw[HR.out] at h;cases h⟩
       | true =>
         have HE2:Hid (nodeE L i x T=if rf=false then .error 53 else .ok T'):=HE
         clear HE C34 hRt hRf
         go_wp2
         go_region_held3 (fun w'=>Fr [] w1 w')
          (with_reducible (first | assumption | exact Fr.drew (Fr.drew (Fr.refl _ _))))
          (first
           | (go_at_call 85;refine (C35 _ (by assumption)).mono ?_;rintro e w10 ⟨rfl,f10⟩;have F10:=Fr.trans (by assumption) f10))
         all_goals
          rename_i hH2
          have FF:∀ w',Fr [] w1 w'→Fr [g] w w' := fun w' f=>F1.trans (f.sub (by simp))
          cases rf with
          | false =>
            have HR:Hid (nodeE L i x T = .error 53):=HE2
            clear HE2 C35 v0 v1 n1 n2
            go_wp2
            go_ret
            exact⟨by rw[HR.out];rfl,FF _ hH2,fun T'' h=>by rw[HR.out] at h;cases h⟩
          | true =>
            have HR:Hid (nodeE L i x T = .ok T'):=HE2
            clear HE2 C35 v0 v1 n1 n2
            go_wp2
            go_ret
            exact⟨by rw[HR.out];rfl,FF _ hH2,fun T'' h=>by rw[HR.out] at h;injection h with h;rw[← h];exact HT2.out.fr hH2 (by simp)⟩
end Go.Proofs.YtnmfcaahdeddnaaGreatDoor.T5
