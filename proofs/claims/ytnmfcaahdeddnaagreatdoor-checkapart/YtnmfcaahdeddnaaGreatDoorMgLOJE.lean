/-
  Parts of the proof; conditions: as each says.
-/
import Derived.Deep.LoopGhost
import Derived.Deep.MidRow
import Derived.WalkMore
import Derived.RegionTactic
import Derived.ChangeAlike
import Derived.Test.YtnmfcaahdeddnaaGreatDoorMgCHLI
namespace Go.Proofs.YtnmfcaahdeddnaaGreatDoor
open Go.RowKit
def sgn (s:ByteArray) : Nat:=signL s.data.toList
theorem under126:Tryz.prog.underlying 200=some (.array 26 9):=by kernel_rfl
theorem info126:(Tryz.prog.info? 200).map (·.size)=some 26:=by kernel_rfl
def sgB (k:Nat) : ByteArray:=⟨(signs.getD k []).toArray⟩
def sgV:List Value:=signs.map fun l=>.string ⟨l.toArray⟩
theorem sgV_at (k:Nat) (h:k<26) : sgV[k]? = some (.string (sgB k)):=by
 have hl:signs.length=26:=rfl
 unfold sgV sgB
 rw[List.getElem?_map,List.getElem?_eq_getElem (by omega)]
 simp[List.getD,List.getElem?_eq_getElem (l:=signs) (i:=k) (by omega)]
theorem sgV_range {w:World} (T:Tabs w) : w.rangeAt 1 0 sgV:=by
 intro j v hv
 have hj:j<26:=by
  have:=(List.getElem?_eq_some_iff.1 hv).1
  rw[show sgV.length=26 from rfl] at this
  exact this
 rw[sgV_at j hj] at hv
 rw[← hv]
 rw[Nat.zero_add]
 exact T.signs j hj
theorem sg_index (k:Nat) (h:k<26) (w:World) : (Instr.index 200 (.agg sgV.toArray) (.int .i64 k)).run Tryz.prog w = .ok (.string (sgB k)) w:=by
 have h0:0≤(k:Int)∧(k:Int)<(26:Nat):=by omega
 have hg:=sgV_at k h
 have hg' : sgV.toArray[k]? = some (.string (sgB k)):=by simpa using hg
 generalize sgV.toArray=A at *
 simp[Instr.index,run_underlying under126,asIntOf,h0,go_sem,hg',h]
theorem find_getD {L:List (List UInt8)} {p:List UInt8→Bool} : ∀ k,k<L.length→(∀ j,j<k→p (L.getD j [])=false)→p (L.getD k [])=true→L.find? p=some (L.getD k []):=by
 induction L with
 | nil=>intro k h;simp at h
 | cons x L ih =>
   intro k h hno hp
   cases k with
   | zero=>simp at hp;simp[hp]
   | succ k =>
     have h0:=hno 0 (by omega)
     simp at h0
     rw[List.find?_cons,h0]
     exact ih k (by simpa using h) (fun j hj=>by have:=hno (j+1) (by omega);simpa using this) (by simpa using hp)
theorem sign_found {l:List UInt8} {k:Nat} (h:k<26) (hno:∀ j,j<k→(signs.getD j []).isPrefixOf l=false) (hp:(signs.getD k []).isPrefixOf l=true) : signL l=(signs.getD k []).length:=by
 unfold signL
 have hl:k<signs.length:=by rw[show signs.length=26 from rfl];exact h
 rw[find_getD (p:=fun g=>g.isPrefixOf l) k hl hno hp]
theorem sign_none {l:List UInt8} (hno:∀ j,j<26→(signs.getD j []).isPrefixOf l=false) : signL l=0:=by
 unfold signL
 have:signs.find? (fun g=>g.isPrefixOf l)=none:=by
  rw[List.find?_eq_none]
  intro x hx
  obtain⟨j,hj,e⟩:=List.getElem_of_mem hx
  have:=hno j hj
  rw[List.getD,List.getElem?_eq_getElem hj,Option.getD_some,e] at this
  rw[this];simp
 rw[this]
theorem isPrefix_iff (g l:List UInt8) : g.isPrefixOf l=true↔l.take g.length=g:=by
 rw[List.isPrefixOf_iff_prefix,List.prefix_iff_eq_take]
 exact eq_comm
set_option maxRecDepth 100000 in
set_option maxHeartbeats 1000000 in
theorem signLength_any (s:ByteArray) (w:World) (hs:s.size≤maxLen) (T:Tabs w) :
 Calls Tryz.prog 155 #[.string s] w fun e w'=>e = .returned (.int .i64 (sgn s))∧∃ n,w' = w.drewN n:=by
 unfold maxLen at hs
 have hR:=sgV_range T
 have hu:=under126
 have hi:(Tryz.prog.info? 200).map (·.size)=some sgV.length:=info126
 have hX:=sg_index
 generalize sgV=SG at hR hi hX
 go_enter Tryz.func155,Tryz.ntmps155
 go_wp2
 go_step3
 go_wp2
 go_step3
 go_wp2_with (refine wpList_load_mid rfl 200 (.global 1) rfl 1 0 rfl SG _ hR under126 rfl hi ?_)
 clear hR hi
 go_loopg [7] 26 (fun g i wr=>∃ k:Nat,k+g=26∧i = .int .i64 k∧(∃ n,wr=w.drewN n)∧Hid (∀ j,j<k→(signs.getD j []).isPrefixOf s.data.toList=false))
 case atStart=>exact⟨0,rfl,rfl,⟨0,rfl⟩,fun j h=>by omega⟩
 case round =>
  obtain⟨k,hkg,rfl,⟨n,rfl⟩,hno⟩:=hrel
  cases gk with
  | zero =>
    have hlt:¬ ((k:Int)<26):=by omega
    have hz:sgn s=0:=sign_none (fun j hj=>hno.out j (by omega))
    have HZ:Hid _:=hz
    clear hz hX
    go_wp2
    go_ret
    refine⟨?_,_,rfl⟩;rw[HZ.out];rfl
  | succ g =>
    have hlt:(k:Int)<26:=by omega
    have hk:=hX k (by omega)
    clear hX
    have hk26:k<26:=by omega
    have HF:Hid (s.data.toList.take (sgB k).size=(sgB k).data.toList→sgn s=(sgB k).size):=fun h=>by
     have e1:(sgB k).data.toList=signs.getD k []:=by simp[sgB]
     have e2:(sgB k).size=(signs.getD k []).length:=by rw[Lib.size_eq,e1]
     rw[e1,e2] at h
     rw[e2]
     exact sign_found hk26 hno.out ((isPrefix_iff _ _).2 h)
    have HN:Hid (¬ s.data.toList.take (sgB k).size=(sgB k).data.toList→∀ j,j<k+1→(signs.getD j []).isPrefixOf s.data.toList=false):=fun h j hj=>by
     have e1:(sgB k).data.toList=signs.getD k []:=by simp[sgB]
     have e2:(sgB k).size=(signs.getD k []).length:=by rw[Lib.size_eq,e1]
     rw[e1,e2] at h
     by_cases hjk:j=k
     ·rw[hjk,Bool.eq_false_iff]
      exact fun hh=>h ((isPrefix_iff _ _).1 hh)
     ·exact hno.out j (by omega)
    have hGs:(sgB k).size≤2:=by
     have e1:(sgB k).data.toList=signs.getD k []:=by simp[sgB]
     rw[Lib.size_eq,e1]
     have:∀ g∈signs,g.length≤2:=by decide
     rw[List.getD,List.getElem?_eq_getElem (l:=signs) (i:=k) hk26]
     exact this _ (List.getElem_mem _)
    generalize sgB k=G at *
    clear hno
    go_wp2
    go_loopg [12] G.size (fun h i wx=>∃ i' : Nat,i' + h=G.size∧i = .int .i64 i'∧(∃ n,wx=w.drewN n)∧i'≤s.size∧Hid (s.data.toList.take i' = G.data.toList.take i'))
    case atStart=>exact⟨0,by omega,rfl,⟨n,rfl⟩,Nat.zero_le _,rfl⟩
    case round =>
     obtain⟨i,hih,rfl,⟨n2,rfl⟩,his,hpre⟩:=hrel
     cases gk with
     | zero =>
       have hi:i=G.size:=by omega
       subst hi
       have hf:=HF.out (by rw[hpre.out,take_full])
       have HZ:Hid _:=hf
       clear hf
       go_wp2
       try rw[Exit.noGoto_ret]
       go_ret
       refine⟨?_,_,rfl⟩;rw[HZ.out];rfl
     | succ h =>
       have hiG:i<G.size:=by omega
       have hlen:s.data.toList.length=s.size:=(Lib.size_eq s).symm
       have hlenG:G.data.toList.length=G.size:=(Lib.size_eq G).symm
       by_cases hil:i=s.size
       ·have hn:=HN.out (fun e=>by
         have:=congrArg List.length e
         rw[List.length_take,hlen,hlenG] at this
         omega)
        have HZ:Hid _:=hn
        have hil' : ((i:Int) == s.size)=true:=by simp;omega
        clear hn hil hlen hlenG
        go_wp2
        go_region
        go_wp2
        go_roundg g
        case measure=>omega
        case rel=>exact⟨k+1,by omega,by go_num,⟨n2+1,rfl⟩,HZ⟩
       ·have hi2:i<s.size:=by omega
        have hil' : ((i:Int) == s.size)=false:=beq_int_false (by omega)
        have t1:=take_snoc s i hi2
        have t2:=take_snoc G i hiG
        by_cases hq:s[i].toNat=G[i].toNat
        ·have hq' : ((s[i].toNat:Int) != G[i].toNat)=false:=by simp;omega
         have hp2:s.data.toList.take (i+1)=G.data.toList.take (i+1):=by
          rw[t1,t2,hpre.out,UInt8.toNat_inj.1 hq]
         have HP:Hid _:=hp2
         clear hp2 t1 t2 hq hil hlen hlenG
         go_wp2
         go_region
         go_wp2
         go_roundg h
         case measure=>omega
         case rel=>exact⟨i+1,by omega,by go_num,⟨_,rfl⟩,by omega,HP⟩
        ·have hq' : ((s[i].toNat:Int) != G[i].toNat)=true:=by simp;omega
         have hn:=HN.out (fun e=>by
          have e2:=congrArg (List.take (i+1)) e
          rw[List.take_take,Nat.min_eq_left (by omega),t1,t2] at e2
          have:=List.append_inj_right e2 (by rw[List.length_take,List.length_take,hlen,hlenG];omega)
          simp at this
          exact hq (by rw[this]))
         have HZ:Hid _:=hn
         clear hn t1 t2 hq hil hlen hlenG
         go_wp2
         go_region
         go_wp2
         go_roundg g
         case measure=>omega
         case rel=>exact⟨k+1,by omega,by go_num,⟨_,rfl⟩,HZ⟩
end Go.Proofs.YtnmfcaahdeddnaaGreatDoor
