/-
  Parts of the proof; conditions: as each says.
-/
import Derived.Deep.WholeRow
import Derived.Test.YtnmfcaahdeddnaaGreatDoorMgEAAP
import Derived.Test.YtnmfcaahdeddnaaGreatDoorMgFNAI
import Derived.Test.YtnmfcaahdeddnaaGreatDoorMgHLAD
import Derived.Test.YtnmfcaahdeddnaaGreatDoorMgIBLE
namespace Go.Proofs.YtnmfcaahdeddnaaGreatDoor
open Go.RowKit
open T5 (hidC)
set_option linter.unusedVariables false
set_option linter.unusedSimpArgs false
theorem prgL_len {s:ByteArray} (hs:s.size≤200000) {ms:List PN} (h:prgL s = .ok ms) : (∀ x∈ms,LenOK 200020 x)∧ms.length≤50000:=by
 rcases hsc:sc s 0 with ⟨ts,_ | ⟨p,c⟩⟩
 ·rw[prgL_after hsc rfl] at h
  have hT:Toks (withEnd s ts):=(toks_of (by rw[hsc])).1
  have HLE:∀ i,i<(withEnd s ts).length→TLen 200020 (tk (withEnd s ts) i):=fun i hi=>by
   have:=(toks_good (s:=s) (ts:=ts) (by rw[hsc]) i hi).2
   exact⟨Nat.le_trans this.1 (by omega),Nat.le_trans this.2 (by omega)⟩
  generalize withEnd s ts=us at *
  unfold afterL at h
  split at h
  ·cases h
  ·split at h
   ·cases h
   ·rename_i v j ns hr
    split at h
    ·cases h
    ·rename_i h5
     split at h
     ·cases h
     ·cases h
      have hh:=(fullP_eq hT).trans (congrArg some hr)
      exact⟨fun x hx=>keep_len (M:=200020) hT (by omega) HLE _ .prog _ _ (fun t h=>by cases h) v j ms hh (by simp) x hx,by omega⟩
 ·unfold prgL at h
  rw[hsc] at h
  cases h
theorem same_nbs:∀ (A B:List T5.Nd),A.map T5.nb=B.map T5.nb→T5.sameL A B=true
 | [],[],_=>rfl
 | [],_::_,h=>by simp at h
 | _::_,[],h=>by simp at h
 | a::A,b::B,h=>by
   simp only[List.map_cons,List.cons.injEq] at h
   have h2:=same_nbs A B h.2
   obtain⟨ak,at',aa,ac,aks,ap⟩:=a
   obtain⟨bk,bt,ba,bc,bks,bp⟩:=b
   have h1:=h.1
   simp only[T5.nb,T5.Nd.mk.injEq] at h1
   obtain⟨rfl,rfl,_,_,rfl,rfl⟩:=h1
   simp[T5.sameL,T5.ndEq,T5.txEq,T5.ksEq,h2]
def Zd:Array Value:=#[.slice none 0 0,.slice none 0 0,.int .i64 0,.slice none 0 0]
theorem i28s:(Tryz.prog.info? 28).map (·.size)=some 4:=by kernel_rfl
theorem bare_short {A O:List T5.Nd} (hA:A.length≤50000) (hO:O.map T5.nb=(T5.bareP A A.length).2) : O.length≤50000:=by
 have h1:=(T5.bareP_len A A.length).2
 rw[← hO,List.length_map] at h1
 omega
theorem one4 {sv:Value} (h:sv.oneCell' = true) {fa ma:Option Addr} {k fc m mc:Nat} {n:Int} : (#[sv,.slice fa k fc,.int .i64 n,.slice ma m mc] : Array Value).all (fun x=>x.oneCell')=true:=by
 have e:(#[sv,.slice fa k fc,.int .i64 n,.slice ma m mc] : Array Value).all (fun x=>x.oneCell')=(sv.oneCell' && true):=by
  simp only[List.all_toArray,List.all_cons,List.all_nil]
  rfl
 rw[e,h]
 rfl
structure Dv (v:Value) (k m:Nat) (mn:Int) : Prop where
 ex:∃ sv fa fc ma mc,v = .agg #[sv,.slice fa k fc,.int .i64 mn,.slice ma m mc]∧sv.oneCell' = true
theorem dv_of {A:List T5.Nd} {w w' : World} {e:Ending} (h:T5.POut A w w' e) {d:T5.Ds} (hd:T5.progE A = .ok d) : ∃ v,e = .returned (.tuple #[v,.int .i64 0,.int .i64 0])∧Dv v d.fns.length d.merges.length d.main:=by
 unfold T5.POut at h
 rw[hd] at h
 obtain⟨sv,fv,mv,SS,FF,rfl,D⟩:=h
 obtain⟨sa,sc',rfl,_⟩:=T5.own_slice D.so
 obtain⟨fa,fc,rfl,_⟩:=T5.own_slice D.fo
 obtain⟨ma,mc,rfl,_⟩:=T5.own_slice D.mo
 have e2:=congrArg List.length D.ef
 simp only[List.length_map] at e2
 exact⟨.agg #[.slice sa SS.length sc',.slice fa FF.length fc,.int .i64 (d.main:Nat),.slice ma d.merges.length mc],rfl,⟨.slice sa SS.length sc',fa,fc,ma,mc,by rw[e2],rfl⟩⟩
set_option maxRecDepth 100000 in
set_option maxHeartbeats 4000000 in
theorem checkApart_walk (s:ByteArray) (w:World) (TT:Tabs w) : Calls Tryz.prog 6 #[.string s] w fun e w'=>e = .returned (.bool true)∧Fr [] w w' := by
 have CA:=awake_any w TT
 by_cases hq:2000<s.size
 ·have hqI:(2000:Int)<s.size:=by omega
  clear hq
  go_enter Tryz.func6,Tryz.ntmps6
  go_wp2_with fail
  refine CA.mono ?_
  rintro e w1 ⟨rfl,f1⟩
  have HF:Hid (Fr [] w w1):=f1
  clear CA f1
  go_wp2
  go_ret
  exact⟨rfl,HF.out⟩
 ·have hqI:¬ ((2000:Int)<s.size):=by omega
  have HS:Hid (s.size≤200000):=by unfold Hid;omega
  have HTT:Hid (Tabs w):=TT
  clear hq TT
  go_enter Tryz.func6,Tryz.ntmps6
  go_wp2_with fail
  refine CA.mono ?_
  rintro e w1 ⟨rfl,f1⟩
  have F1:Hid (Fr [] w w1):=f1
  have C18:=prgR_any s w1 HS.out (HTT.out.fr f1 (by simp)).len
  clear CA f1
  go_wp2_with fail
  refine C18.mono ?_
  rintro e w2 ⟨hO,f2⟩
  have F2:Hid (Fr [] w w2):=F1.out.trans f2
  clear C18 F1
  cases hp:prgL s with
  | error x =>
    obtain⟨p,c⟩:=x
    have hc0:((c:Int) != 0)=true:=by have:=prg_err_ne hp;simp;omega
    unfold PrgOut at hO
    rw[hp] at hO
    have hO' : e = .returned (.tuple #[.slice none 0 0,.int .i64 (p:Nat),.int .i64 (c:Nat)]):=hO
    subst hO'
    clear hO hp f2
    go_wp2
    go_ret
    exact⟨rfl,F2.out⟩
  | ok ms =>
    unfold PrgOut at hO
    rw[hp] at hO
    obtain⟨nv,L,F',rfl,hL,hown,hob,hkr,hF⟩:=hO
    obtain⟨a,c,rfl,-⟩:=own_slice hown
    obtain⟨hmt,hml⟩:=prgL_len HS.out hp
    have hN:=nodes5 hown hkr (fun j hj=>(hF j hj).2) (fun m hm=>(hmt m.x (by rw[← hL];exact List.mem_map_of_mem hm)).1)
    obtain⟨A,hA⟩ : ∃ A,A=L.map nd5:=⟨_,rfl⟩
    rw[← hA] at hN
    obtain⟨n,hn⟩ : ∃ n,n=L.length:=⟨_,rfl⟩
    have HAL:Hid (A.length=n):=by unfold Hid;rw[hA,hn,List.length_map]
    have HN5:Hid (n≤50000):=by unfold Hid;rw[hn,show L.length=ms.length by rw[← hL];simp];exact hml
    have HNA:Hid (T5.NAt w2.heap.size w2 a A):=hN
    have C19:=T5.prog8_any (cap:=c) HAL.out HNA.out (by have:=HN5.out;omega) (HTT.out.fr F2.out (by simp))
    rw[← hn]
    clear hN hA hn hown hkr hF hob hL hml hmt hp f2
    go_wp2_with fail
    refine C19.mono ?_
    rintro e w3 ⟨hO,f3⟩
    have F3:Hid (Fr [] w w3):=F2.out.trans f3
    have G3:Hid (Fr [] w2 w3):=f3
    clear C19 f3
    cases hd:T5.progE A with
    | error x =>
      obtain⟨p,k⟩:=x
      have hc0:((k:Int) != 0)=true:=by have:=T5.progE_ok A p k hd;simp;omega
      unfold T5.POut at hO
      rw[hd] at hO
      have hO' : e = .returned (.tuple #[.agg #[.slice none 0 0,.slice none 0 0,.int .i64 0,.slice none 0 0],.int .i64 p,.int .i64 (k:Nat)]):=hO
      subst hO'
      have HF:Hid (Fr [] w (w3.alloc (.cells #[.slice none 0 0,.slice none 0 0,.int .i64 0,.slice none 0 0] 28))):=F3.out.trans ((Fr.refl _ _).alloc _)
      have zz:=heap_alloc_new w3 (.cells #[.slice none 0 0,.slice none 0 0,.int .i64 0,.slice none 0 0] 28)
      have HX:Hid ((w3.alloc (.cells #[.slice none 0 0,.slice none 0 0,.int .i64 0,.slice none 0 0] 28)).setRow w3.heap.size #[.slice none 0 0,.slice none 0 0,.int .i64 0,.slice none 0 0]=w3.alloc (.cells #[.slice none 0 0,.slice none 0 0,.int .i64 0,.slice none 0 0] 28)):=World.setRow_alloc_new w3 _ _ _
      clear hO hd
      go_wp2_with (refine wpList_store_row rfl 28 (.tmp 6) (.tmp 31) rfl w3.heap.size #[.slice none 0 0,.slice none 0 0,.int .i64 0,.slice none 0 0] rfl rfl 28 _ zz (by rw[i28s];rfl) rfl rfl ?_;rw[HX.out])
      go_ret
      exact⟨rfl,HF.out⟩
    | ok d =>
      obtain⟨v,rfl,hv⟩:=dv_of hO hd
      obtain⟨sv,fa,fc,ma,mc,rfl,sv1⟩:=hv.ex
      have HD:Hid (T5.progE A = .ok d):=hd
      obtain⟨X4,hX4⟩ : ∃ X4,X4=w3.alloc (.cells #[sv,.slice fa d.fns.length fc,.int .i64 d.main,.slice ma d.merges.length mc] 28):=⟨_,rfl⟩
      have F4:Hid (Fr [] w X4):=by rw[hX4];exact F3.out.trans ((Fr.refl _ _).alloc _)
      have G4:Hid (Fr [] w2 X4):=by rw[hX4];exact G3.out.trans ((Fr.refl _ _).alloc _)
      have B4:Hid (X4.heap[w3.heap.size]? = some (.cells #[sv,.slice fa d.fns.length fc,.int .i64 d.main,.slice ma d.merges.length mc] 28 (0,0))):=by rw[hX4];exact heap_alloc_new _ _
      have zz:=heap_alloc_new w3 (.cells Zd 28)
      have HX:Hid ((w3.alloc (.cells Zd 28)).setRow w3.heap.size #[sv,.slice fa d.fns.length fc,.int .i64 d.main,.slice ma d.merges.length mc]=X4):=by rw[hX4];exact World.setRow_alloc_new w3 _ _ _
      have H1:Hid ((#[sv,.slice fa d.fns.length fc,.int .i64 d.main,.slice ma d.merges.length mc] : Array Value).all (fun x=>x.oneCell')=true):=by show _=true;exact one4 sv1
      have C13:=T5.bare13_any (cap:=c) HAL.out ((HNA.out.fr G4.out (by simp)).mono G4.out.size) (by have:=HN5.out;omega) (HTT.out.fr F4.out (by simp))
      unfold Zd at zz HX
      clear hO hd hv sv1 hX4 F3 G3
      go_wp2_with (refine wpList_store_row rfl 28 (.tmp 6) (.tmp 31) rfl w3.heap.size #[sv,.slice fa d.fns.length fc,.int .i64 d.main,.slice ma d.merges.length mc] rfl rfl 28 _ zz (by rw[i28s];rfl) rfl H1.out ?_;rw[HX.out])
      refine C13.mono ?_
      rintro e w5 ⟨ho5,f5⟩
      have F5:Hid (Fr [] w w5):=F4.out.trans f5
      have B5:Hid (w5.heap[w3.heap.size]? = some (.cells #[sv,.slice fa d.fns.length fc,.int .i64 d.main,.slice ma d.merges.length mc] 28 (0,0))):=(f5.block _ (Array.getElem?_eq_some_iff.1 B4.out).1 (by simp)).trans B4.out
      clear C13 zz HX H1 f5 B4 F4 G4
      have h0:(T5.checkL A).2=0:=Decidable.byContradiction fun h=>by
       have:=HD.out
       unfold T5.progE at this
       rw[if_pos h] at this
       cases this
      unfold T5.BOut at ho5
      rw[if_neg (by simpa using h0)] at ho5
      obtain⟨oa,oc,O,rfl,hO,mO⟩:=ho5
      obtain⟨d',hd',hmg,hfn,hmn,_,hz⟩:=T5.prog_bare hO HD.out
      have HCA:Hid (T5.checkL A=((T5.checkL A).1,0)):=Prod.ext rfl h0
      have HO:Hid (O.map T5.nb=(T5.bareP A A.length).2):=hO
      have HO5:Hid (O.length≤50000):=bare_short (by rw[HAL.out];exact HN5.out) hO
      have HNO:Hid (T5.NAt w5.heap.size w5 oa O):=mO.nat
      have HZO:Hid ((T5.checkL O).2=0):=hz
      have HD' : Hid (T5.progE O = .ok d'):=hd'
      have HMG:Hid (d'.merges = []):=hmg
      have HFN:Hid (d'.fns.length=d.fns.length):=hfn
      have HMN:Hid (d'.main=d.main):=hmn
      have C19:=T5.prog8_any (len:=O.length) (cap:=oc) rfl HNO.out (by have:=HO5.out;omega) (HTT.out.fr F5.out (by simp))
      clear h0 hO mO hd' hmg hfn hmn hz
      go_wp2_with fail
      refine C19.mono ?_
      rintro e w6 ⟨ho6,f6⟩
      have F6:Hid (Fr [] w w6):=F5.out.trans f6
      have G6:Hid (Fr [] w5 w6):=f6
      clear C19 f6
      obtain⟨v,rfl,hv⟩:=dv_of ho6 HD'.out
      rw[HMG.out,HFN.out,HMN.out] at hv
      obtain⟨sv',fa',fc',ma',mc',rfl,sv1⟩:=hv.ex
      obtain⟨X7,hX7⟩ : ∃ X7,X7=w6.alloc (.cells #[sv',.slice fa' d.fns.length fc',.int .i64 d.main,.slice ma' 0 mc'] 28):=⟨_,rfl⟩
      have F7:Hid (Fr [] w X7):=by rw[hX7];exact F6.out.trans ((Fr.refl _ _).alloc _)
      have G7:Hid (Fr [] w5 X7):=by rw[hX7];exact G6.out.trans ((Fr.refl _ _).alloc _)
      have B7:Hid (X7.heap[w6.heap.size]? = some (.cells #[sv',.slice fa' d.fns.length fc',.int .i64 d.main,.slice ma' 0 mc'] 28 (0,0))):=by rw[hX7];exact heap_alloc_new _ _
      have zz:=heap_alloc_new w6 (.cells Zd 28)
      have HX:Hid ((w6.alloc (.cells Zd 28)).setRow w6.heap.size #[sv',.slice fa' d.fns.length fc',.int .i64 d.main,.slice ma' 0 mc']=X7):=by rw[hX7];exact World.setRow_alloc_new w6 _ _ _
      have H1:Hid ((#[sv',.slice fa' d.fns.length fc',.int .i64 d.main,.slice ma' 0 mc'] : Array Value).all (fun x=>x.oneCell')=true):=by show _=true;exact one4 sv1
      have C13:=T5.bare13_any (L:=O) (len:=O.length) (cap:=oc) rfl ((HNO.out.fr G7.out (by simp)).mono G7.out.size) (by have:=HO5.out;omega) (HTT.out.fr F7.out (by simp))
      unfold Zd at zz HX
      clear ho6 hv sv1 hX7 F6 G6
      go_wp2_with (refine wpList_store_row rfl 28 (.tmp 10) (.tmp 46) rfl w6.heap.size #[sv',.slice fa' d.fns.length fc',.int .i64 d.main,.slice ma' 0 mc'] rfl rfl 28 _ zz (by rw[i28s];rfl) rfl H1.out ?_;rw[HX.out])
      refine C13.mono ?_
      rintro e w8 ⟨ho8,f8⟩
      have F8:Hid (Fr [] w w8):=F7.out.trans f8
      have G8:Hid (Fr [] w5 w8):=G7.out.trans f8
      have B8:Hid (w8.heap[w6.heap.size]? = some (.cells #[sv',.slice fa' d.fns.length fc',.int .i64 d.main,.slice ma' 0 mc'] 28 (0,0))):=(f8.block _ (Array.getElem?_eq_some_iff.1 B7.out).1 (by simp)).trans B7.out
      clear C13 zz HX H1 f8 B7 F7 G7
      unfold T5.BOut at ho8
      rw[if_neg (by simpa using HZO.out)] at ho8
      obtain⟨pa,pc,O',rfl,hO',mO'⟩:=ho8
      have HSM:Hid (T5.sameL O O' = true):=same_nbs O O' (T5.bare_again HO.out HCA.out hO').symm
      have HO5' : Hid (O'.length≤50000):=bare_short HO5.out hO'
      have C10:=T5.rsame_any w8.heap.size w8 O O' oa pa O.length O'.length oc pc rfl rfl (by have:=HO5.out;unfold maxLen;omega) (by have:=HO5'.out;unfold maxLen;omega) ((HNO.out.fr G8.out (by simp)).mono G8.out.size) mO'.nat
      rw[HSM.out] at C10
      have b5:=(G8.out.block _ (Array.getElem?_eq_some_iff.1 B5.out).1 (by simp)).trans B5.out
      have c61:=at_cells b5 1 rfl
      have c62:=at_cells b5 2 rfl
      have c81:=at_cells B8.out 1 rfl
      have c82:=at_cells B8.out 2 rfl
      have c83:=at_cells B8.out 3 rfl
      have HFN2:Hid (d'.fns.length=d.fns.length):=HFN
      generalize d.fns.length=K at *
      generalize (d.main:Int)=mn at *
      generalize O.length=n1 at *
      generalize O'.length=n2 at *
      clear hO' mO' b5
      go_wp2_with fail
      refine C10.mono ?_
      rintro e w9 ⟨rfl,f9⟩
      have F9:Hid (Fr [] w w9):=F8.out.trans f9
      clear C10 f9
      go_wp2
      go_ret
      exact⟨rfl,F9.out⟩
end Go.Proofs.YtnmfcaahdeddnaaGreatDoor
