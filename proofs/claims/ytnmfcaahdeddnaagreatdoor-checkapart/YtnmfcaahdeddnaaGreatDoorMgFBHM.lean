/-
  Parts of the proof; conditions: as each says.
-/
import Derived.Lib.SlBytesConst
import Derived.Test.YtnmfcaahdeddnaaGreatDoorMgAKFO
set_option maxRecDepth 100000
namespace Go.Proofs.YtnmfcaahdeddnaaGreatDoor
open Go.RowKit
set_option maxRecDepth 100000
theorem und5:Tryz.prog.underlying 5=some (.int .u8):=by kernel_rfl
def ones:List UInt8:=[40,41,123,125,91,93,44,59,46,61,43,45,42,47,37,38,124,94,60,33,126]
theorem pref2 {s:ByteArray} {i:Nat} (h:i<s.size) (a b:UInt8) (hb:b.toNat≠0) : [a,b].isPrefixOf (s.data.toList.drop i)=(decide (s[i].toNat=a.toNat)&&decide (atB s (i+1)=b.toNat)):=by
 rw[drop_cons s i h,Bool.eq_iff_iff]
 by_cases h1:i+1<s.size
 ·rw[drop_cons s (i+1) h1,atB_in h1]
  simp only[List.isPrefixOf,Bool.and_true,Bool.and_eq_true,beq_iff_eq,decide_eq_true_eq,UInt8.toNat_inj]
  constructor <;> rintro ⟨x,y⟩ <;> exact⟨x.symm,y.symm⟩
 ·rw[drop_end s (i+1) (by omega),atB_out h1]
  simp[List.isPrefixOf]
  intro _ e
  exact hb e.symm
theorem pref1 {s:ByteArray} {i:Nat} (h:i<s.size) (a:UInt8) : [a].isPrefixOf (s.data.toList.drop i)=decide (s[i].toNat=a.toNat):=by
 rw[drop_cons s i h,Bool.eq_iff_iff]
 simp only[List.isPrefixOf,Bool.and_true,beq_iff_eq,decide_eq_true_eq,UInt8.toNat_inj]
 exact eq_comm
theorem two_at (k:Nat) (h:k<5) : ∃ a b:UInt8,signs.getD k [] = [a,b]∧b.toNat≠0:=by
 match k,h with
 | 0,_=>exact⟨60,60,rfl,by decide⟩
 | 1,_=>exact⟨62,62,rfl,by decide⟩
 | 2,_=>exact⟨61,61,rfl,by decide⟩
 | 3,_=>exact⟨33,61,rfl,by decide⟩
 | 4,_=>exact⟨60,61,rfl,by decide⟩
theorem one_at (k:Nat) (h:k<21) : signs.getD (5+k) [] = [ones.getD k 0]:=by
 have e:signs=signs.take 5++ones.map (fun c=>[c]):=by decide
 have hl:k<ones.length:=h
 rw[e,List.getD,List.getElem?_append_right (by decide +revert)]
 have:5+k-(signs.take 5).length=k:=by rw[show (signs.take 5).length=5 from rfl];omega
 rw[this]
 simp[List.getD,List.getElem?_eq_getElem hl]
theorem onesAt (k:Nat) (h:k<21) : (ones.map fun c=>Value.int .u8 c.toNat)[k]? = some (.int .u8 ((ones.getD k 0).toNat:Nat)):=by
 have hl:k<ones.length:=h
 rw[List.getElem?_map,List.getElem?_eq_getElem hl]
 simp[List.getD,List.getElem?_eq_getElem hl]
theorem twosAt (k:Nat) (h:k<5) : ((signs.take 5).map fun l=>Value.string ⟨l.toArray⟩)[k]? = some (.string (sgB k)):=by
 have hl:k<(signs.take 5).length:=h
 have hl2:k<signs.length:=by rw[show signs.length=26 from rfl];omega
 rw[List.getElem?_map,List.getElem?_eq_getElem hl]
 simp[sgB,List.getD,List.getElem?_eq_getElem hl2]
theorem wrap_le {n:Int} (h0:0≤n) (h1:n≤2 ^ 41) : IntKind.i64.wrap n=n:=by
 exact Go.wrap_small n h0 (by omega)
set_option maxHeartbeats 1000000 in
theorem signR_any (s:ByteArray) (i:Nat) (w:World) (hs:s.size≤2 ^ 40) (hi:i<s.size) :
 Calls Tryz.prog 60 #[.string s,.int .i64 i] w fun e w'=>e = .returned (.int .i64 (signL (s.data.toList.drop i)))∧Fr [] w w' := by
 have hat:=fun w=>at_any s (i+1) w (by unfold maxLen;omega)
 have hat2:∀ w,Calls Tryz.prog 94 #[.string s,.int .i64 ((i:Int)+1)] w fun e w'=>e = .returned (.int .u8 (atB s (i+1)))∧w' = w:=fun w=>by simpa using hat w
 clear hat
 have hwr:IntKind.i64.wrap ((i:Int)+1)=(i:Int)+1:=wrap_le (by omega) (by omega)
 have hat3:∀ w,Calls Tryz.prog 94 #[.string s,.int .i64 (IntKind.i64.wrap ((i:Int)+1))] w fun e w'=>e = .returned (.int .u8 (atB s (i+1)))∧w' = w:=by rw[hwr];exact hat2
 clear hwr
 have hA:=atB_lt s (i+1)
 have hbi:=byte_lt s[i]
 go_enter Tryz.func60,Tryz.ntmps60
 go_wp2
 generalize hw1:w.alloc _=w1
 have hF:Fr [] w w1:=by rw[← hw1];exact (Fr.refl _ _).alloc _
 have hB:w1.heap[w.heap.size]? = some (.cells ((signs.take 5).map fun l=>Value.string ⟨l.toArray⟩).toArray 9):=by rw[← hw1];exact heap_alloc_new w _
 have hC:∀ k,k<5→w1.cell? ⟨w.heap.size,k,none⟩=some (.string (sgB k)):=fun k hk=>by
  unfold World.cell?
  rw[hB]
  simpa using twosAt k hk
 clear hw1 hB
 generalize w.heap.size=g at hC ⊢
 go_loopg [11] 5 (fun h j wr=>∃ k:Nat,k+h=5∧j = .int .i64 k∧(∃ n,wr=w1.drewN n)∧Hid (∀ j,j<k→(signs.getD j []).isPrefixOf (s.data.toList.drop i)=false))
 case atStart=>exact⟨0,rfl,rfl,⟨0,rfl⟩,fun j h=>by omega⟩
 case round =>
  obtain⟨k,hkg,rfl,⟨n,hwr⟩,hno⟩:=hrel
  cases gk with
  | zero =>
    subst hwr
    have hlt:¬ ((k:Int)<5):=by omega
    have hk5:k=5:=by omega
    have kc:∀ (C:Array Value) (m c:Nat),(convert 154 154 (.slice (some ⟨w1.heap.size,0,none⟩) m c)).run Tryz.prog ((w1.drewN n).alloc (.cells C 5)) = .ok (.slice (some ⟨w1.heap.size,0,none⟩) m c) ((w1.drewN n).alloc (.cells C 5 (C.size,C.size+1))):=fun C m c=>Lib.run_convert_bytes_const (P:=Tryz.prog) (w1.drewN n) 154 5 C m c under106 und5
    clear hC hat2 hat3 hA
    have HK5:Hid (k=5):=hk5
    clear hk5 hkg
    have hF1:Fr [] w (w1.drewN n):=hF.drewN n
    have hsz1:(w1.drewN n).heap.size=w1.heap.size:=rfl
    go_wp2
    generalize hw2:World.alloc (w1.drewN n) _=w2
    have hF2:Fr [] w w2:=by rw[← hw2];exact hF1.alloc _
    have hB2:w2.heap[w1.heap.size]? = some (.cells (ones.map fun c=>Value.int .u8 c.toNat).toArray 5 (21,22)):=by rw[← hw2];exact heap_alloc_new (w1.drewN n) _
    have hC2:∀ k,k<21→w2.cell? ⟨w1.heap.size,k,none⟩=some (.int .u8 ((ones.getD k 0).toNat:Nat)):=fun k hk=>by
     unfold World.cell?
     rw[hB2]
     simpa using onesAt k hk
    clear hw2 hB2 kc hsz1
    generalize w1.heap.size=g2 at hC2 ⊢
    go_loopg [34] 21 (fun h j wr=>∃ m:Nat,m+h=21∧j = .int .i64 m∧wr=w2∧Hid (∀ j,j<5+m→(signs.getD j []).isPrefixOf (s.data.toList.drop i)=false))
    case atStart=>exact⟨0,rfl,rfl,rfl,fun j h=>hno.out j (by have:=HK5.out;omega)⟩
    case round =>
     obtain⟨m,hmg,rfl,rfl,hno2⟩:=hrel
     cases gk with
     | zero =>
       have hlt2:¬ ((m:Int)<21):=by omega
       have hz:signL (s.data.toList.drop i)=0:=sign_none (fun j hj=>hno2.out j (by omega))
       have HZ:Hid _:=hz
       clear hz hC2
       go_wp2
       go_ret
       refine⟨?_,hF2⟩;rw[HZ.out];rfl
     | succ h =>
       have hlt2:(m:Int)<21:=by omega
       have hc:=hC2 m (by omega)
       have h1:=one_at m (by omega)
       have hp1:=pref1 hi (ones.getD m 0)
       rw[← h1] at hp1
       have hb1:=byte_lt (ones.getD m 0)
       have hfd:Hid ((signs.getD (5+m) []).isPrefixOf (s.data.toList.drop i)=true→signL (s.data.toList.drop i)=1):=fun hp=>by
        rw[sign_found (k:=5+m) (by omega) hno2.out hp,h1];rfl
       have hnn:Hid ((signs.getD (5+m) []).isPrefixOf (s.data.toList.drop i)=false→∀ j,j<5+(m+1)→(signs.getD j []).isPrefixOf (s.data.toList.drop i)=false):=fun hp j hj=>by
        by_cases hjm:j=5+m
        ·rw[hjm];exact hp
        ·exact hno2.out j (by omega)
       rw[hp1] at hfd hnn
       clear hC2 h1 hp1 hno2
       generalize (ones.getD m 0).toNat=q at *
       by_cases hq:s[i].toNat=q
       ·have hq' : ((s[i].toNat:Int) == q)=true:=by simp;omega
        have hz:=hfd.out (decide_eq_true hq)
        have HZ:Hid _:=hz
        clear hz hfd hnn hq
        go_wp2
        go_ret
        refine⟨?_,hF2⟩;rw[HZ.out];rfl
       ·have hq' : ((s[i].toNat:Int) == q)=false:=beq_int_false (by omega)
        have hz:=hnn.out (decide_eq_false hq)
        have HZ:Hid _:=hz
        clear hz hfd hnn hq
        go_wp2
        go_roundg h
        case measure=>omega
        case rel=>exact⟨m+1,by omega,by go_num,rfl,HZ⟩
  | succ h =>
    have hlt:(k:Int)<5:=by omega
    have hk:wr.cell? ⟨g,k,none⟩=some (.string (sgB k)):=by rw[hwr];exact hC k (by omega)
    have hFw:Fr [] w wr:=by rw[hwr];exact hF.drewN n
    have HWR:Hid (wr=w1.drewN n):=hwr
    clear hC hwr
    obtain⟨a,b,hab,hb0⟩:=two_at k (by omega)
    have hG:sgB k = ⟨#[a,b]⟩:=by unfold sgB;rw[hab]
    have hG2:(sgB k).size=2:=by rw[hG];rfl
    have l0:0<(sgB k).size:=by omega
    have l1:1<(sgB k).size:=by omega
    have l1' : (1:Int)<(sgB k).size:=by omega
    have ha:(sgB k)[0]'l0=a:=by simp only[hG];rfl
    have hb:(sgB k)[1]'l1=b:=by simp only[hG];rfl
    rw[← ha,← hb] at hab
    rw[← hb] at hb0
    have hp2:=pref2 hi ((sgB k)[0]'l0) ((sgB k)[1]'l1) hb0
    rw[← hab] at hp2
    have hfd:Hid ((signs.getD k []).isPrefixOf (s.data.toList.drop i)=true→signL (s.data.toList.drop i)=2):=fun hp=>by
     rw[sign_found (by omega) hno.out hp,hab];rfl
    have hnn:Hid ((signs.getD k []).isPrefixOf (s.data.toList.drop i)=false→∀ j,j<k+1→(signs.getD j []).isPrefixOf (s.data.toList.drop i)=false):=fun hp j hj=>by
     by_cases hjm:j=k
     ·rw[hjm];exact hp
     ·exact hno.out j (by omega)
    rw[hp2] at hfd hnn
    have ba:=byte_lt ((sgB k)[0]'l0)
    have bb:=byte_lt ((sgB k)[1]'l1)
    clear hG hab hno hp2 ha hb hG2
    generalize sgB k=G at *
    generalize atB s (i+1)=A at *
    by_cases h0:s[i].toNat=G[0].toNat
    ·have h0' : ((s[i].toNat:Int) == G[0].toNat)=true:=by simp;omega
     by_cases h1:A=G[1].toNat
     ·have h1' : ((A:Int) == G[1].toNat)=true:=by simp;omega
      have hz:=hfd.out (by rw[decide_eq_true h0,decide_eq_true h1];rfl)
      have HZ:Hid _:=hz
      clear hz hfd hnn h0 h1
      go_wp2
      go_quiet ((go_at_call 94;first | with_reducible exact Calls.quiet_of_same (hat2 _) | with_reducible exact Calls.quiet_of_same (hat3 _)))
      go_wp2
      go_ret
      refine⟨?_,?_⟩
      ·rw[HZ.out];rfl
      ·first | exact hFw.drewN _ | exact hFw
     ·have h1' : ((A:Int) == G[1].toNat)=false:=beq_int_false (by omega)
      have hz:=hnn.out (by rw[decide_eq_true h0,decide_eq_false h1];rfl)
      have HZ:Hid _:=hz
      clear hz hfd hnn h0 h1
      go_wp2
      go_quiet ((go_at_call 94;first | with_reducible exact Calls.quiet_of_same (hat2 _) | with_reducible exact Calls.quiet_of_same (hat3 _)))
      go_wp2
      go_roundg h
      case measure=>omega
      case rel=>exact⟨k+1,by omega,by go_num,(by rw[HWR.out];exact⟨_,World.drewN_drewN _ _ _⟩),HZ⟩
    ·have h0' : ((s[i].toNat:Int) == G[0].toNat)=false:=beq_int_false (by omega)
     have hz:=hnn.out (by rw[decide_eq_false h0];rfl)
     have HZ:Hid _:=hz
     clear hz hfd hnn h0
     go_wp2
     go_quiet ((go_at_call 94;first | with_reducible exact Calls.quiet_of_same (hat2 _) | with_reducible exact Calls.quiet_of_same (hat3 _)))
     go_wp2
     go_roundg h
     case measure=>omega
     case rel=>exact⟨k+1,by omega,by go_num,(by rw[HWR.out];exact⟨_,World.drewN_drewN _ _ _⟩),HZ⟩
theorem own_lt {w:World} {B n:Nat} {e:TypeId} {size:Nat} {v:Value} {xs:List Value} (h:w.ownsRow B e size v n xs) : ∀ k,v.ownBlock=some k→B≤k∧k<w.heap.size:=fun k hk=>h.lt k hk
theorem own_set {w:World} {B n:Nat} {e:TypeId} {size:Nat} {v:Value} {xs:List Value} (h:w.ownsRow B e size v n xs) {C i:Nat} (hC:v.ownBlock≠some C) (u:Value) : (w.setCell ⟨C,i,none⟩ u).ownsRow B e size v n xs :=
 own_fr h (Fr.setCell (S:=[C]) (Fr.refl _ _) (.inl (by simp)) u) (fun k hk=>by simp;intro e;subst e;exact hC hk)
theorem tok_new' (W:World) (n:Nat) (hn:W.heap.size=n) (v0 v1 v2 v3 v4:Value) : ∀ j u,[v0,v1,v2,v3,v4][j]? = some u→(W.alloc (.cells #[v0,v1,v2,v3,v4] 82)).cell? ((⟨n,0,none⟩ : Addr).add j)=some u:=by
 subst hn;exact tok_new W v0 v1 v2 v3 v4
theorem TB.set0 {w:World} {B:Nat} {v0 v1 v2 v3 v4:Value} (h:TB w B v0 v1 v2 v3 v4) (u:Value) : TB (w.setCell ⟨B,0,none⟩ u) B u v1 v2 v3 v4:=by unfold TB at *;simp[World.setCell,Array.getElem?_modify,h]
theorem TB.set1 {w:World} {B:Nat} {v0 v1 v2 v3 v4:Value} (h:TB w B v0 v1 v2 v3 v4) (u:Value) : TB (w.setCell ⟨B,1,none⟩ u) B v0 u v2 v3 v4:=by unfold TB at *;simp[World.setCell,Array.getElem?_modify,h]
theorem TB.set3 {w:World} {B:Nat} {v0 v1 v2 v3 v4:Value} (h:TB w B v0 v1 v2 v3 v4) (u:Value) : TB (w.setCell ⟨B,3,none⟩ u) B v0 v1 v2 u v4:=by unfold TB at *;simp[World.setCell,Array.getElem?_modify,h]
theorem Fr.tb {w W:World} (h:Fr [] w W) {C i:Nat} (hC:w.heap.size≤C) (u:Value) : Fr [] w (W.setCell ⟨C,i,none⟩ u):=h.setCell (.inr hC) u
theorem rd_name {s:ByteArray} {k:Nat} (hk:k<s.size) (h2:kindN s[k].toNat=2) : rd s k = .ok ⟨if wrd (s.extract k (rnE s k)) then 2 else 1,(s.extract k (rnE s k)).data.toList,k,rnE s k,0⟩:=by
 unfold rd readL rnE
 rw[drop_getD s k hk,if_pos h2,extract_tok,wrd_mk]
theorem rd_digit {s:ByteArray} {k:Nat} (hk:k<s.size) (h3:kindN s[k].toNat=3) : rd s k=nmR s k (rnE s k):=by
 unfold rd readL nmR rnE
 rw[drop_getD s k hk,if_neg (by omega),if_pos h3,extract_tok,num_mk,Nat.add_sub_cancel_left]
 rfl
theorem rd_quote {s:ByteArray} {k:Nat} (hk:k<s.size) (h4:kindN s[k].toNat=4) : rd s k=nmR s k (min (k+3) s.size):=by
 have hl:(s.data.toList.drop k).length=s.size-k:=by rw[List.length_drop,← Lib.size_eq]
 have e3:(s.data.toList.drop k).take 3=(s.data.toList.drop k).take (min (k+3) s.size-k):=by
  by_cases h:k+3≤s.size
  ·rw[show min (k+3) s.size-k=3 from by omega]
  ·rw[show min (k+3) s.size-k=s.size-k from by omega,List.take_of_length_le (by omega),List.take_of_length_le (by omega)]
 unfold rd readL nmR
 rw[drop_getD s k hk,if_neg (by omega),if_neg (by omega),if_pos h4,Lib.extract_eq,num_mk,e3,hl]
 rw[show k+min 3 (s.size-k)=min (k+3) s.size from by omega]
 rfl
theorem rd_bad {s:ByteArray} {k:Nat} (hk:k<s.size) (h2:¬ kindN s[k].toNat=2) (h3:¬ kindN s[k].toNat=3) (h4:¬ kindN s[k].toNat=4) (hz:signL (s.data.toList.drop k)=0) : rd s k = .error 40:=by
 unfold rd readL
 rw[drop_getD s k hk,if_neg h2,if_neg h3,if_neg h4,if_pos hz]
theorem rd_sign {s:ByteArray} {k:Nat} (hk:k<s.size) (h2:¬ kindN s[k].toNat=2) (h3:¬ kindN s[k].toNat=3) (h4:¬ kindN s[k].toNat=4) (hz:¬ signL (s.data.toList.drop k)=0) : rd s k = .ok ⟨3,(s.extract k (k+signL (s.data.toList.drop k))).data.toList,k,k+signL (s.data.toList.drop k),0⟩:=by
 unfold rd readL
 rw[drop_getD s k hk,if_neg h2,if_neg h3,if_neg h4,if_neg hz,extract_tok]
theorem nmR_none {s:ByteArray} {a b:Nat} (h:num (s.extract a b)=none) : nmR s a b = .error 41:=by unfold nmR;rw[h]
theorem nmR_some {s:ByteArray} {a b n:Nat} (h:num (s.extract a b)=some n) : nmR s a b = .ok ⟨4,(s.extract a b).data.toList,a,b,n⟩:=by unfold nmR;rw[h,Lib.extract_data]
theorem kind_dig (n:Nat) : kindN n=3↔isDig n=true:=by
 simp only[kindN,isBl,isLet,isDig,decide_eq_true_eq]
 repeat (first | omega | split)
theorem kind_quote (n:Nat) : kindN n=4↔n=39:=by
 simp only[kindN,isBl,isLet,isDig,decide_eq_true_eq]
 repeat (first | omega | split)
theorem tokA_of (kd:Nat) (X:ByteArray) (a b n:Nat) : flatT [⟨kd,X.data.toList,a,b,n⟩] = [.int .i64 kd,.string X,.int .i64 a,.int .i64 b,.int .i64 n]:=by
 rw[flatT_one]
 simp only[tokA]
set_option maxHeartbeats 4000000 in
theorem scanR_any (s:ByteArray) (w:World) (hs:s.size≤200000) :
 Calls Tryz.prog 31 #[.string s] w fun e w'=>scOut s w w' e∧Fr [] w w' := by
 obtain⟨i5,hi,hz,hz1,hby⟩:=info_parts info56
 have hs40:s.size≤2 ^ 40:=by omega
 have hsM:s.size≤maxLen:=by unfold maxLen;omega
 have hs' : (s.size:Int)≤200000:=by omega
 have HS:Hid (s.size≤200000):=hs
 clear hs
 go_enter Tryz.func31,Tryz.ntmps31
 go_wp2
 go_loopw [5,6] (fun v i wr=>∃ k d,k≤s.size∧Hid (d.length≤k)∧i = .int .i64 ((k:Nat) : Int)∧wr.ownsRow w.heap.size 82 5 v d.length (flatT d)∧Fr [] w wr∧Hid ((d++(sc s k).1,(sc s k).2)=sc s 0)) (fun _ i _=>s.size-(intOf i).toNat)
 case atStart=>exact⟨0,[],Nat.zero_le _,Nat.zero_le _,rfl,World.ownsRow_nil _ _ _ _,Fr.refl _ _,rfl⟩
 case round =>
  obtain⟨k,d,hk,hdk,rfl,hown,hF,hr⟩:=hrel
  have hkl:=skE_le s k hk
  have hskip:=fun w=>skipR_any s k w hsM hk
  obtain⟨av,cv,hv,_⟩:=own_slice hown
  subst hv
  by_cases hlt:skE s k<s.size
  ·have HDL:Hid (d.length+1≤200000):=by have:=hdk.out;have:=HS.out;show _≤_;omega
   have HDK:Hid (d.length≤skE s k):=by have:=hdk.out;show _≤_;omega
   have hok:Hid (∀ t,rd s (skE s k) = .ok t→(d++[t]++(sc s t.to).1,(sc s t.to).2)=sc s 0∧skE s k<t.to∧t.to≤s.size):=fun t ht=>by
    obtain⟨h1,h2,h3⟩:=sc_ok hlt ht
    refine⟨?_,h2,h3⟩
    rw[← hr.out,h1]
    simp
   have herr:Hid (∀ e,rd s (skE s k) = .error e→sc s 0=(d,some (skE s k,e))):=fun e he=>by
    rw[← hr.out,sc_err hlt he]
    simp
   have hkK:Hid (k≤skE s k):=hkl.1
   generalize skE s k=K at *
   clear hr hdk hkl
   have hb:=byte_lt s[K]
   have hL:=fun w=>letter_any s[K].toNat w hb
   have hD:=fun w=>digit_any s[K].toNat w hb
   by_cases h2:kindN s[K].toNat=2
   ·have hrd:=rd_name hlt h2
    rw[(kind_let _).1 h2] at hL
    have hR:=fun w=>run_any s K w hsM (Nat.le_of_lt hlt)
    have hE:=rnE_le s K (Nat.le_of_lt hlt)
    have hWd:=fun w=>Word_any (s.extract K (rnE s K)) w
    obtain⟨o1,o2,o3⟩:=hok.out _ hrd
    simp only at o1 o2 o3
    have HTK:Hid (∀ kd:Nat,flatT [⟨kd,(s.extract K (rnE s K)).data.toList,K,rnE s K,0⟩] = [.int .i64 kd,.string (s.extract K (rnE s K)),.int .i64 K,.int .i64 (rnE s K),.int .i64 0]):=fun kd=>tokA_of kd _ _ _ _
    have O1:Hid _:=o1
    clear h2 hrd hok herr o1 hD
    go_wp2_with (first | (go_at_call 54;refine (hskip _).mono ?_;rintro e wr ⟨rfl,rfl⟩) | (go_at_call 55;refine (hL _).mono ?_;rintro e w1 ⟨rfl,rfl⟩) | (go_at_call 56;refine (hR _).mono ?_;rintro e w1 ⟨rfl,rfl⟩))
    have t0:=TB.new wr (.int .i64 1) (.string ⟨#[]⟩) (.int .i64 K) (.int .i64 (rnE s K)) (.int .i64 0)
    have F1:=hF.alloc (.cells #[.int .i64 1,.string ⟨#[]⟩,.int .i64 K,.int .i64 (rnE s K),.int .i64 0] 82)
    have ho1:=hown.alloc (.cells #[.int .i64 1,.string ⟨#[]⟩,.int .i64 K,.int .i64 (rnE s K),.int .i64 0] 82)
    have hCo:(Value.slice av d.length cv).ownBlock≠some wr.heap.size:=fun e=>by have:=(own_lt hown _ e).2;omega
    have hCw:Hid (w.heap.size≤wr.heap.size):=hF.size
    generalize wr.alloc (.cells #[.int .i64 1,.string ⟨#[]⟩,.int .i64 K,.int .i64 (rnE s K),.int .i64 0] 82)=w1 at *
    generalize wr.heap.size=C at *
    refine (hWd w1).mono ?_
    rintro e w2 ⟨rfl,hF2⟩
    have t2:=t0.fr hF2 (by simp)
    have F2:=F1.trans hF2
    have ho2:=own_fr ho1 hF2 (fun _ _=>by simp)
    generalize wrd (s.extract K (rnE s K))=wd at *
    clear hWd hL hR t0 F1 ho1 hF2
    have a0:=t2.c0
    have a1:=t2.c1
    have a2:=t2.c2
    have a3:=t2.c3
    have a4:=t2.c4
    have fz:=t2.fz
    obtain⟨E1,E2⟩:=hE
    cases wd
    ·simp only[Bool.false_eq_true,if_false] at O1
     have t5:=t2.set1 (.string (s.extract K (rnE s K)))
     have ho5:=own_set (i:=1) ho2 hCo (.string (s.extract K (rnE s K)))
     have F5:=Fr.tb (i:=1) F2 hCw.out (.string (s.extract K (rnE s K)))
     go_wp2_with (at_builtin;refine wpList_append_own _ rfl _ _ 74 rfl w.heap.size 82 i5 (.agg #[.int .i64 0,.string ⟨#[]⟩,.int .i64 0,.int .i64 0,.int .i64 0]) 5 48 under42 hi hz hz1 hby rfl (by decide) (.slice av d.length cv) d.length (flatT d) rfl ?own ⟨w2.heap.size,0,none⟩ 1 1 [.int .i64 1,.string (s.extract K (rnE s K)),.int .i64 K,.int .i64 (rnE s K),.int .i64 0] rfl rfl ?news (by simp[Value.oneCell']) (by have:=HDL.out;have:maxLen=9223372036854775807:=rfl;omega) (by have:=HDL.out;omega) ?base ?_)
     case own=>exact ho5.alloc _
     case news=>exact tok_new' _ _ (by simp) _ _ _ _ _
     case base=>have:=F5.size;simp at this ⊢;omega
     intro v1 w3 hown1 hgrow hnil
     have FG:Fr (Value.slice av d.length cv).ownBlock.toList _ w3:=(Fr.alloc (Fr.refl _ _) (.cells #[.int .i64 1,.string (s.extract K (rnE s K)),.int .i64 K,.int .i64 (rnE s K),.int .i64 0] 82)).trans (Fr.ofGrown hgrow)
     have t6:=t5.fr FG (fun hm=>hCo (by simpa using hm))
     have F6:Fr [] w w3:=((F5.sub (T:=(Value.slice av d.length cv).ownBlock.toList) (by simp)).trans FG).sub (fun k hk=>.inr (own_lt hown k (by simpa using hk)).1)
     have c6:=t6.c3
     clear FG hgrow t6 t5 ho5 F5
     go_wp2
     go_roundw
     case rel=>exact⟨rnE s K,d++[⟨1,(s.extract K (rnE s K)).data.toList,K,rnE s K,0⟩],o3,(by have:=HDK.out;show _≤_;simp;omega),rfl,(by rw[flatT_append,HTK.out];simpa using hown1),F6,O1⟩
     case measure=>have:=hkK.out;simp[intOf];omega
    ·simp only[if_true] at O1
     have t5:=(t2.set0 (.int .i64 2)).set1 (.string (s.extract K (rnE s K)))
     have ho5:=own_set (i:=1) (own_set (i:=0) ho2 hCo (.int .i64 2)) hCo (.string (s.extract K (rnE s K)))
     have F5:=Fr.tb (i:=1) (Fr.tb (i:=0) F2 hCw.out (.int .i64 2)) hCw.out (.string (s.extract K (rnE s K)))
     go_wp2_with (at_builtin;refine wpList_append_own _ rfl _ _ 74 rfl w.heap.size 82 i5 (.agg #[.int .i64 0,.string ⟨#[]⟩,.int .i64 0,.int .i64 0,.int .i64 0]) 5 48 under42 hi hz hz1 hby rfl (by decide) (.slice av d.length cv) d.length (flatT d) rfl ?own ⟨w2.heap.size,0,none⟩ 1 1 [.int .i64 2,.string (s.extract K (rnE s K)),.int .i64 K,.int .i64 (rnE s K),.int .i64 0] rfl rfl ?news (by simp[Value.oneCell']) (by have:=HDL.out;have:maxLen=9223372036854775807:=rfl;omega) (by have:=HDL.out;omega) ?base ?_)
     case own=>exact ho5.alloc _
     case news=>exact tok_new' _ _ (by simp) _ _ _ _ _
     case base=>have:=F5.size;simp at this ⊢;omega
     intro v1 w3 hown1 hgrow hnil
     have FG:Fr (Value.slice av d.length cv).ownBlock.toList _ w3:=(Fr.alloc (Fr.refl _ _) (.cells #[.int .i64 2,.string (s.extract K (rnE s K)),.int .i64 K,.int .i64 (rnE s K),.int .i64 0] 82)).trans (Fr.ofGrown hgrow)
     have t6:=t5.fr FG (fun hm=>hCo (by simpa using hm))
     have F6:Fr [] w w3:=((F5.sub (T:=(Value.slice av d.length cv).ownBlock.toList) (by simp)).trans FG).sub (fun k hk=>.inr (own_lt hown k (by simpa using hk)).1)
     have c6:=t6.c3
     clear FG hgrow t6 t5 ho5 F5
     go_wp2
     go_roundw
     case rel=>exact⟨rnE s K,d++[⟨2,(s.extract K (rnE s K)).data.toList,K,rnE s K,0⟩],o3,(by have:=HDK.out;show _≤_;simp;omega),rfl,(by rw[flatT_append,HTK.out];simpa using hown1),F6,O1⟩
     case measure=>have:=hkK.out;simp[intOf];omega
   ·have hl2:isLet s[K].toNat=false:=by rw[Bool.eq_false_iff];exact fun h=>h2 ((kind_let _).2 h)
    rw[hl2] at hL
    clear hl2
    by_cases h3:kindN s[K].toNat=3
    ·have hrd:=rd_digit hlt h3
     rw[(kind_dig _).1 h3] at hD
     have hR:=fun w=>run_any s K w hsM (Nat.le_of_lt hlt)
     have hE:=rnE_le s K (Nat.le_of_lt hlt)
     have hN:=fun w=>numberR_any (s.extract K (rnE s K)) w (by rw[ByteArray.size_extract];unfold maxLen;omega)
     obtain⟨E1,E2⟩:=hE
     clear h2 h3
     by_cases hm:(s.size:Int)<(K:Int)+3
     ·cases hnum:num (s.extract K (rnE s K)) with
      | none =>
        have hsc:=herr.out _ (hrd.trans (nmR_none hnum))
        have HSC:Hid _:=hsc
        rw[hnum,nOut] at hN
        simp only[Option.getD_none,Option.isSome_none] at hN
        have F1:=hF.alloc (.cells #[.int .i64 4,.string ⟨#[]⟩,.int .i64 K,.int .i64 (rnE s K),.int .i64 0] 82)
        clear hsc hok herr hrd hnum
        go_wp2_with (first | (go_at_call 54;refine (hskip _).mono ?_;rintro e wr ⟨rfl,rfl⟩) | (go_at_call 55;refine (hL _).mono ?_;rintro e w1 ⟨rfl,rfl⟩) | (go_at_call 58;refine (hD _).mono ?_;rintro e w1 ⟨rfl,rfl⟩) | (go_at_call 56;refine (hR _).mono ?_;rintro e w1 ⟨rfl,rfl⟩) | (go_at_call 59;refine (hN _).mono ?_;rintro e w1 ⟨rfl,rfl⟩))
        refine bodyPost_ret (v:=.tuple #[.slice none 0 0,.int .i64 (K:Nat),.int .i64 (41:Nat)]) (by simp[results,Tryz.results31,go_sem]) rfl ⟨scOut_some HSC.out,F1⟩
      | some n =>
        obtain⟨o1,o2,o3⟩:=hok.out _ (hrd.trans (nmR_some hnum))
        simp only at o1 o2 o3
        have O1:Hid _:=o1
        rw[hnum,nOut] at hN
        simp only[Option.getD_some,Option.isSome_some] at hN
        clear o1 hok herr hrd hnum
        have t5:=TB.new wr (.int .i64 4) (.string (s.extract K (rnE s K))) (.int .i64 K) (.int .i64 (rnE s K)) (.int .i64 n)
        have F5:=hF.alloc (.cells #[.int .i64 4,.string (s.extract K (rnE s K)),.int .i64 K,.int .i64 (rnE s K),.int .i64 n] 82)
        have ho5:=hown.alloc (.cells #[.int .i64 4,.string (s.extract K (rnE s K)),.int .i64 K,.int .i64 (rnE s K),.int .i64 n] 82)
        have hCo:(Value.slice av d.length cv).ownBlock≠some wr.heap.size:=fun e=>by have:=(own_lt hown _ e).2;omega
        go_wp2_with (first | (go_at_call 54;refine (hskip _).mono ?_;rintro e wr ⟨rfl,rfl⟩) | (go_at_call 55;refine (hL _).mono ?_;rintro e w1 ⟨rfl,rfl⟩) | (go_at_call 58;refine (hD _).mono ?_;rintro e w1 ⟨rfl,rfl⟩) | (go_at_call 56;refine (hR _).mono ?_;rintro e w1 ⟨rfl,rfl⟩) | (go_at_call 59;refine (hN _).mono ?_;rintro e w1 ⟨rfl,rfl⟩) | (at_builtin;refine wpList_append_own _ rfl _ _ 74 rfl w.heap.size 82 i5 (.agg #[.int .i64 0,.string ⟨#[]⟩,.int .i64 0,.int .i64 0,.int .i64 0]) 5 48 under42 hi hz hz1 hby rfl (by decide) (.slice av d.length cv) d.length (flatT d) rfl ?own ⟨wr.heap.size+1,0,none⟩ 1 1 [.int .i64 4,.string (s.extract K (rnE s K)),.int .i64 K,.int .i64 (rnE s K),.int .i64 n] rfl rfl ?news (by simp[Value.oneCell']) (by have:=HDL.out;have:maxLen=9223372036854775807:=rfl;omega) (by have:=HDL.out;omega) ?base ?_))
        case own=>exact ho5.alloc _
        case news=>exact tok_new' _ _ (by simp) _ _ _ _ _
        case base=>have:=F5.size;simp at this ⊢;omega
        intro v1 w3 hown1 hgrow hnil
        have FG:Fr (Value.slice av d.length cv).ownBlock.toList _ w3:=(Fr.alloc (Fr.refl _ _) (.cells #[.int .i64 4,.string (s.extract K (rnE s K)),.int .i64 K,.int .i64 (rnE s K),.int .i64 n] 82)).trans (Fr.ofGrown hgrow)
        have t6:=t5.fr FG (fun hm=>hCo (by simpa using hm))
        have F6:Fr [] w w3:=((F5.sub (T:=(Value.slice av d.length cv).ownBlock.toList) (by simp)).trans FG).sub (fun k hk=>.inr (own_lt hown k (by simpa using hk)).1)
        have c6:=t6.c3
        clear FG hgrow t6 t5 ho5 F5
        go_wp2
        go_roundw
        case rel=>exact⟨(rnE s K),d++[⟨4,(s.extract K (rnE s K)).data.toList,K,(rnE s K),n⟩],o3,(by have:=HDK.out;show _≤_;simp;omega),(by go_num),(by rw[flatT_append,tokA_of];simpa using hown1),F6,O1⟩
        case measure=>have:=hkK.out;simp[intOf];omega
     ·have hm2:(K:Int)+3≤s.size:=by omega
      clear hm
      cases hnum:num (s.extract K (rnE s K)) with
      | none =>
        have hsc:=herr.out _ (hrd.trans (nmR_none hnum))
        have HSC:Hid _:=hsc
        rw[hnum,nOut] at hN
        simp only[Option.getD_none,Option.isSome_none] at hN
        have F1:=hF.alloc (.cells #[.int .i64 4,.string ⟨#[]⟩,.int .i64 K,.int .i64 (rnE s K),.int .i64 0] 82)
        clear hsc hok herr hrd hnum
        go_wp2_with (first | (go_at_call 54;refine (hskip _).mono ?_;rintro e wr ⟨rfl,rfl⟩) | (go_at_call 55;refine (hL _).mono ?_;rintro e w1 ⟨rfl,rfl⟩) | (go_at_call 58;refine (hD _).mono ?_;rintro e w1 ⟨rfl,rfl⟩) | (go_at_call 56;refine (hR _).mono ?_;rintro e w1 ⟨rfl,rfl⟩) | (go_at_call 59;refine (hN _).mono ?_;rintro e w1 ⟨rfl,rfl⟩))
        refine bodyPost_ret (v:=.tuple #[.slice none 0 0,.int .i64 (K:Nat),.int .i64 (41:Nat)]) (by simp[results,Tryz.results31,go_sem]) rfl ⟨scOut_some HSC.out,F1⟩
      | some n =>
        obtain⟨o1,o2,o3⟩:=hok.out _ (hrd.trans (nmR_some hnum))
        simp only at o1 o2 o3
        have O1:Hid _:=o1
        rw[hnum,nOut] at hN
        simp only[Option.getD_some,Option.isSome_some] at hN
        clear o1 hok herr hrd hnum
        have t5:=TB.new wr (.int .i64 4) (.string (s.extract K (rnE s K))) (.int .i64 K) (.int .i64 (rnE s K)) (.int .i64 n)
        have F5:=hF.alloc (.cells #[.int .i64 4,.string (s.extract K (rnE s K)),.int .i64 K,.int .i64 (rnE s K),.int .i64 n] 82)
        have ho5:=hown.alloc (.cells #[.int .i64 4,.string (s.extract K (rnE s K)),.int .i64 K,.int .i64 (rnE s K),.int .i64 n] 82)
        have hCo:(Value.slice av d.length cv).ownBlock≠some wr.heap.size:=fun e=>by have:=(own_lt hown _ e).2;omega
        go_wp2_with (first | (go_at_call 54;refine (hskip _).mono ?_;rintro e wr ⟨rfl,rfl⟩) | (go_at_call 55;refine (hL _).mono ?_;rintro e w1 ⟨rfl,rfl⟩) | (go_at_call 58;refine (hD _).mono ?_;rintro e w1 ⟨rfl,rfl⟩) | (go_at_call 56;refine (hR _).mono ?_;rintro e w1 ⟨rfl,rfl⟩) | (go_at_call 59;refine (hN _).mono ?_;rintro e w1 ⟨rfl,rfl⟩) | (at_builtin;refine wpList_append_own _ rfl _ _ 74 rfl w.heap.size 82 i5 (.agg #[.int .i64 0,.string ⟨#[]⟩,.int .i64 0,.int .i64 0,.int .i64 0]) 5 48 under42 hi hz hz1 hby rfl (by decide) (.slice av d.length cv) d.length (flatT d) rfl ?own ⟨wr.heap.size+1,0,none⟩ 1 1 [.int .i64 4,.string (s.extract K (rnE s K)),.int .i64 K,.int .i64 (rnE s K),.int .i64 n] rfl rfl ?news (by simp[Value.oneCell']) (by have:=HDL.out;have:maxLen=9223372036854775807:=rfl;omega) (by have:=HDL.out;omega) ?base ?_))
        case own=>exact ho5.alloc _
        case news=>exact tok_new' _ _ (by simp) _ _ _ _ _
        case base=>have:=F5.size;simp at this ⊢;omega
        intro v1 w3 hown1 hgrow hnil
        have FG:Fr (Value.slice av d.length cv).ownBlock.toList _ w3:=(Fr.alloc (Fr.refl _ _) (.cells #[.int .i64 4,.string (s.extract K (rnE s K)),.int .i64 K,.int .i64 (rnE s K),.int .i64 n] 82)).trans (Fr.ofGrown hgrow)
        have t6:=t5.fr FG (fun hm=>hCo (by simpa using hm))
        have F6:Fr [] w w3:=((F5.sub (T:=(Value.slice av d.length cv).ownBlock.toList) (by simp)).trans FG).sub (fun k hk=>.inr (own_lt hown k (by simpa using hk)).1)
        have c6:=t6.c3
        clear FG hgrow t6 t5 ho5 F5
        go_wp2
        go_roundw
        case rel=>exact⟨(rnE s K),d++[⟨4,(s.extract K (rnE s K)).data.toList,K,(rnE s K),n⟩],o3,(by have:=HDK.out;show _≤_;simp;omega),(by go_num),(by rw[flatT_append,tokA_of];simpa using hown1),F6,O1⟩
        case measure=>have:=hkK.out;simp[intOf];omega
    ·have hd3:isDig s[K].toNat=false:=by rw[Bool.eq_false_iff];exact fun h=>h3 ((kind_dig _).2 h)
     rw[hd3] at hD
     clear hd3
     by_cases h4:kindN s[K].toNat=4
     ·have h39:=(kind_quote _).1 h4
      have h39' : ((s[K].toNat:Int) == 39)=true:=by simp;omega
      have hrd:=rd_quote hlt h4
      clear h2 h3 h4 h39
      by_cases hm:K+3≤s.size
      ·rw[Nat.min_eq_left hm] at hrd
       have hN:=fun w=>numberR_any (s.extract K (K+3)) w (by rw[ByteArray.size_extract];unfold maxLen;omega)
       cases hnum:num (s.extract K (K+3)) with
       | none =>
         have hsc:=herr.out _ (hrd.trans (nmR_none hnum))
         have HSC:Hid _:=hsc
         rw[hnum,nOut] at hN
         simp only[Option.getD_none,Option.isSome_none] at hN
         have F1:=hF.alloc (.cells #[.int .i64 4,.string ⟨#[]⟩,.int .i64 K,.int .i64 (K+3),.int .i64 0] 82)
         clear hsc hok herr hrd hnum
         go_wp2_with (first | (go_at_call 54;refine (hskip _).mono ?_;rintro e wr ⟨rfl,rfl⟩) | (go_at_call 55;refine (hL _).mono ?_;rintro e w1 ⟨rfl,rfl⟩) | (go_at_call 58;refine (hD _).mono ?_;rintro e w1 ⟨rfl,rfl⟩) | (go_at_call 59;refine (hN _).mono ?_;rintro e w1 ⟨rfl,rfl⟩))
         refine bodyPost_ret (v:=.tuple #[.slice none 0 0,.int .i64 (K:Nat),.int .i64 (41:Nat)]) (by simp[results,Tryz.results31,go_sem]) rfl ⟨scOut_some HSC.out,F1⟩
       | some n =>
         obtain⟨o1,o2,o3⟩:=hok.out _ (hrd.trans (nmR_some hnum))
         simp only at o1 o2 o3
         have O1:Hid _:=o1
         rw[hnum,nOut] at hN
         simp only[Option.getD_some,Option.isSome_some] at hN
         clear o1 hok herr hrd hnum
         have t5:=TB.new wr (.int .i64 4) (.string (s.extract K (K+3))) (.int .i64 K) (.int .i64 (K+3)) (.int .i64 n)
         have F5:=hF.alloc (.cells #[.int .i64 4,.string (s.extract K (K+3)),.int .i64 K,.int .i64 (K+3),.int .i64 n] 82)
         have ho5:=hown.alloc (.cells #[.int .i64 4,.string (s.extract K (K+3)),.int .i64 K,.int .i64 (K+3),.int .i64 n] 82)
         have hCo:(Value.slice av d.length cv).ownBlock≠some wr.heap.size:=fun e=>by have:=(own_lt hown _ e).2;omega
         go_wp2_with (first | (go_at_call 54;refine (hskip _).mono ?_;rintro e wr ⟨rfl,rfl⟩) | (go_at_call 55;refine (hL _).mono ?_;rintro e w1 ⟨rfl,rfl⟩) | (go_at_call 58;refine (hD _).mono ?_;rintro e w1 ⟨rfl,rfl⟩) | (go_at_call 59;refine (hN _).mono ?_;rintro e w1 ⟨rfl,rfl⟩) | (at_builtin;refine wpList_append_own _ rfl _ _ 74 rfl w.heap.size 82 i5 (.agg #[.int .i64 0,.string ⟨#[]⟩,.int .i64 0,.int .i64 0,.int .i64 0]) 5 48 under42 hi hz hz1 hby rfl (by decide) (.slice av d.length cv) d.length (flatT d) rfl ?own ⟨wr.heap.size+1,0,none⟩ 1 1 [.int .i64 4,.string (s.extract K (K+3)),.int .i64 K,.int .i64 (K+3),.int .i64 n] rfl rfl ?news (by simp[Value.oneCell']) (by have:=HDL.out;have:maxLen=9223372036854775807:=rfl;omega) (by have:=HDL.out;omega) ?base ?_))
         case own=>exact ho5.alloc _
         case news=>exact tok_new' _ _ (by simp) _ _ _ _ _
         case base=>have:=F5.size;simp at this ⊢;omega
         intro v1 w3 hown1 hgrow hnil
         have FG:Fr (Value.slice av d.length cv).ownBlock.toList _ w3:=(Fr.alloc (Fr.refl _ _) (.cells #[.int .i64 4,.string (s.extract K (K+3)),.int .i64 K,.int .i64 (K+3),.int .i64 n] 82)).trans (Fr.ofGrown hgrow)
         have t6:=t5.fr FG (fun hm=>hCo (by simpa using hm))
         have F6:Fr [] w w3:=((F5.sub (T:=(Value.slice av d.length cv).ownBlock.toList) (by simp)).trans FG).sub (fun k hk=>.inr (own_lt hown k (by simpa using hk)).1)
         have c6:=t6.c3
         clear FG hgrow t6 t5 ho5 F5
         go_wp2
         go_roundw
         case rel=>exact⟨(K+3),d++[⟨4,(s.extract K (K+3)).data.toList,K,(K+3),n⟩],o3,(by have:=HDK.out;show _≤_;simp;omega),(by go_num),(by rw[flatT_append,tokA_of];simpa using hown1),F6,O1⟩
         case measure=>have:=hkK.out;simp[intOf];omega
      ·rw[Nat.min_eq_right (by omega)] at hrd
       have hm' : (s.size:Int)<(K:Int)+3:=by omega
       clear hm
       have hN:=fun w=>numberR_any (s.extract K s.size) w (by rw[ByteArray.size_extract];unfold maxLen;omega)
       cases hnum:num (s.extract K s.size) with
       | none =>
         have hsc:=herr.out _ (hrd.trans (nmR_none hnum))
         have HSC:Hid _:=hsc
         rw[hnum,nOut] at hN
         simp only[Option.getD_none,Option.isSome_none] at hN
         have F1:=hF.alloc (.cells #[.int .i64 4,.string ⟨#[]⟩,.int .i64 K,.int .i64 s.size,.int .i64 0] 82)
         clear hsc hok herr hrd hnum
         go_wp2_with (first | (go_at_call 54;refine (hskip _).mono ?_;rintro e wr ⟨rfl,rfl⟩) | (go_at_call 55;refine (hL _).mono ?_;rintro e w1 ⟨rfl,rfl⟩) | (go_at_call 58;refine (hD _).mono ?_;rintro e w1 ⟨rfl,rfl⟩) | (go_at_call 59;refine (hN _).mono ?_;rintro e w1 ⟨rfl,rfl⟩))
         refine bodyPost_ret (v:=.tuple #[.slice none 0 0,.int .i64 (K:Nat),.int .i64 (41:Nat)]) (by simp[results,Tryz.results31,go_sem]) rfl ⟨scOut_some HSC.out,F1⟩
       | some n =>
         obtain⟨o1,o2,o3⟩:=hok.out _ (hrd.trans (nmR_some hnum))
         simp only at o1 o2 o3
         have O1:Hid _:=o1
         rw[hnum,nOut] at hN
         simp only[Option.getD_some,Option.isSome_some] at hN
         clear o1 hok herr hrd hnum
         have t5:=TB.new wr (.int .i64 4) (.string (s.extract K s.size)) (.int .i64 K) (.int .i64 s.size) (.int .i64 n)
         have F5:=hF.alloc (.cells #[.int .i64 4,.string (s.extract K s.size),.int .i64 K,.int .i64 s.size,.int .i64 n] 82)
         have ho5:=hown.alloc (.cells #[.int .i64 4,.string (s.extract K s.size),.int .i64 K,.int .i64 s.size,.int .i64 n] 82)
         have hCo:(Value.slice av d.length cv).ownBlock≠some wr.heap.size:=fun e=>by have:=(own_lt hown _ e).2;omega
         go_wp2_with (first | (go_at_call 54;refine (hskip _).mono ?_;rintro e wr ⟨rfl,rfl⟩) | (go_at_call 55;refine (hL _).mono ?_;rintro e w1 ⟨rfl,rfl⟩) | (go_at_call 58;refine (hD _).mono ?_;rintro e w1 ⟨rfl,rfl⟩) | (go_at_call 59;refine (hN _).mono ?_;rintro e w1 ⟨rfl,rfl⟩) | (at_builtin;refine wpList_append_own _ rfl _ _ 74 rfl w.heap.size 82 i5 (.agg #[.int .i64 0,.string ⟨#[]⟩,.int .i64 0,.int .i64 0,.int .i64 0]) 5 48 under42 hi hz hz1 hby rfl (by decide) (.slice av d.length cv) d.length (flatT d) rfl ?own ⟨wr.heap.size+1,0,none⟩ 1 1 [.int .i64 4,.string (s.extract K s.size),.int .i64 K,.int .i64 s.size,.int .i64 n] rfl rfl ?news (by simp[Value.oneCell']) (by have:=HDL.out;have:maxLen=9223372036854775807:=rfl;omega) (by have:=HDL.out;omega) ?base ?_))
         case own=>exact ho5.alloc _
         case news=>exact tok_new' _ _ (by simp) _ _ _ _ _
         case base=>have:=F5.size;simp at this ⊢;omega
         intro v1 w3 hown1 hgrow hnil
         have FG:Fr (Value.slice av d.length cv).ownBlock.toList _ w3:=(Fr.alloc (Fr.refl _ _) (.cells #[.int .i64 4,.string (s.extract K s.size),.int .i64 K,.int .i64 s.size,.int .i64 n] 82)).trans (Fr.ofGrown hgrow)
         have t6:=t5.fr FG (fun hm=>hCo (by simpa using hm))
         have F6:Fr [] w w3:=((F5.sub (T:=(Value.slice av d.length cv).ownBlock.toList) (by simp)).trans FG).sub (fun k hk=>.inr (own_lt hown k (by simpa using hk)).1)
         have c6:=t6.c3
         clear FG hgrow t6 t5 ho5 F5
         go_wp2
         go_roundw
         case rel=>exact⟨s.size,d++[⟨4,(s.extract K s.size).data.toList,K,s.size,n⟩],o3,(by have:=HDK.out;show _≤_;simp;omega),(by go_num),(by rw[flatT_append,tokA_of];simpa using hown1),F6,O1⟩
         case measure=>have:=hkK.out;simp[intOf];omega
     ·have h39' : ((s[K].toNat:Int) == 39)=false:=beq_int_false (by intro h;exact h4 ((kind_quote _).2 (by omega)))
      have hSg:=fun w=>signR_any s K w hs40 hlt
      have hrb:=rd_bad hlt h2 h3 h4
      have hrs:=rd_sign hlt h2 h3 h4
      have hLl:signL (s.data.toList.drop K)≤s.size-K:=by
       have:=signL_le (s.data.toList.drop K)
       rw[List.length_drop,← Lib.size_eq] at this
       exact this
      clear h2 h3 h4
      generalize signL (s.data.toList.drop K)=L at *
      have HLl:Hid (L≤s.size-K):=hLl
      clear hLl
      have hrb' : Hid (L=0→rd s K = .error 40):=hrb
      have hrs' : Hid (¬ L=0→rd s K = .ok ⟨3,(s.extract K (K+L)).data.toList,K,K+L,0⟩):=hrs
      clear hrb hrs
      go_wp2_with (first | (go_at_call 54;refine (hskip _).mono ?_;rintro e wr ⟨rfl,rfl⟩) | (go_at_call 55;refine (hL _).mono ?_;rintro e w1 ⟨rfl,rfl⟩) | (go_at_call 58;refine (hD _).mono ?_;rintro e w1 ⟨rfl,rfl⟩))
      have t0:=TB.new wr (.int .i64 3) (.string ⟨#[]⟩) (.int .i64 K) (.int .i64 K) (.int .i64 0)
      have F1:=hF.alloc (.cells #[.int .i64 3,.string ⟨#[]⟩,.int .i64 K,.int .i64 K,.int .i64 0] 82)
      have ho1:=hown.alloc (.cells #[.int .i64 3,.string ⟨#[]⟩,.int .i64 K,.int .i64 K,.int .i64 0] 82)
      have hCo:(Value.slice av d.length cv).ownBlock≠some wr.heap.size:=fun e=>by have:=(own_lt hown _ e).2;omega
      have hCw:Hid (w.heap.size≤wr.heap.size):=hF.size
      generalize wr.alloc (.cells #[.int .i64 3,.string ⟨#[]⟩,.int .i64 K,.int .i64 K,.int .i64 0] 82)=w1 at *
      generalize wr.heap.size=C at *
      refine (hSg w1).mono ?_
      rintro e w2 ⟨rfl,hF2⟩
      have t2:=t0.fr hF2 (by simp)
      have F2:=F1.trans hF2
      have ho2:=own_fr ho1 hF2 (fun _ _=>by simp)
      clear hSg hL hD t0 F1 ho1 hF2
      have a0:=t2.c0
      have a1:=t2.c1
      have a2:=t2.c2
      have a3:=t2.c3
      have a4:=t2.c4
      have fz:=t2.fz
      by_cases hL0:L=0
      ·have hsc:=herr.out _ (hrb'.out hL0)
       have HSC:Hid _:=hsc
       subst hL0
       have F5:=Fr.tb (i:=3) F2 hCw.out (.int .i64 K)
       clear hsc hok herr hrb' hrs'
       go_wp2
       refine bodyPost_ret (v:=.tuple #[.slice none 0 0,.int .i64 (K:Nat),.int .i64 (40:Nat)]) (by simp[results,Tryz.results31,go_sem]) rfl ⟨scOut_some HSC.out,F5⟩
      ·obtain⟨o1,o2,o3⟩:=hok.out _ (hrs'.out hL0)
       simp only at o1 o2 o3
       have O1:Hid _:=o1
       have hne:(((K:Int)+L) == K)=false:=beq_int_false (by omega)
       have hLL:(L:Int)≤s.size-K:=by have:=HLl.out;omega
       clear o1 hok herr hrb' hrs'
       have t5:=(t2.set3 (.int .i64 ((K:Int)+L))).set1 (.string (s.extract K (K+L)))
       have ho5:=own_set (i:=1) (own_set (i:=3) ho2 hCo (.int .i64 ((K:Int)+L))) hCo (.string (s.extract K (K+L)))
       have F5:=Fr.tb (i:=1) (Fr.tb (i:=3) F2 hCw.out (.int .i64 ((K:Int)+L))) hCw.out (.string (s.extract K (K+L)))
       go_wp2_with (at_builtin;refine wpList_append_own _ rfl _ _ 74 rfl w.heap.size 82 i5 (.agg #[.int .i64 0,.string ⟨#[]⟩,.int .i64 0,.int .i64 0,.int .i64 0]) 5 48 under42 hi hz hz1 hby rfl (by decide) (.slice av d.length cv) d.length (flatT d) rfl ?own ⟨w2.heap.size,0,none⟩ 1 1 [.int .i64 3,.string (s.extract K (K+L)),.int .i64 K,.int .i64 ((K:Int)+L),.int .i64 0] rfl rfl ?news (by simp[Value.oneCell']) (by have:=HDL.out;have:maxLen=9223372036854775807:=rfl;omega) (by have:=HDL.out;omega) ?base ?_)
       case own=>exact ho5.alloc _
       case news=>exact tok_new' _ _ (by simp) _ _ _ _ _
       case base=>have:=F5.size;simp at this ⊢;omega
       intro v1 w3 hown1 hgrow hnil
       have FG:Fr (Value.slice av d.length cv).ownBlock.toList _ w3:=(Fr.alloc (Fr.refl _ _) (.cells #[.int .i64 3,.string (s.extract K (K+L)),.int .i64 K,.int .i64 ((K:Int)+L),.int .i64 0] 82)).trans (Fr.ofGrown hgrow)
       have t6:=t5.fr FG (fun hm=>hCo (by simpa using hm))
       have F6:Fr [] w w3:=((F5.sub (T:=(Value.slice av d.length cv).ownBlock.toList) (by simp)).trans FG).sub (fun k hk=>.inr (own_lt hown k (by simpa using hk)).1)
       have c6:=t6.c3
       clear FG hgrow t6 t5 ho5 F5
       go_wp2
       go_roundw
       case rel=>exact⟨K+L,d++[⟨3,(s.extract K (K+L)).data.toList,K,K+L,0⟩],o3,(by have:=HDK.out;show _≤_;simp;omega),(by go_num),(by rw[flatT_append,tokA_of];simpa using hown1),F6,O1⟩
       case measure=>have:=hkK.out;simp[intOf];omega
  ·have hsc:=sc_end hk (by omega)
   have hKs:skE s k=s.size:=by omega
   have HSC:Hid (sc s 0=(d,none)):=by
    show _=_
    rw[← hr.out,hsc]
    simp
   rw[hKs] at hskip
   have HDL:Hid (d.length≤200000):=Nat.le_trans hdk.out (Nat.le_trans hk HS.out)
   have hlt' : ¬ (s.size:Int)<s.size:=by omega
   clear hsc hr hlt hKs hkl hdk
   go_wp2_with (first | (go_at_call 54;refine (hskip _).mono ?_;rintro e wr ⟨rfl,rfl⟩) | (at_builtin;refine wpList_append_own _ rfl _ _ 74 rfl w.heap.size 82 i5 (.agg #[.int .i64 0,.string ⟨#[]⟩,.int .i64 0,.int .i64 0,.int .i64 0]) 5 48 under42 hi hz hz1 hby rfl (by decide) (.slice av d.length cv) d.length (flatT d) rfl ((hown.alloc _).alloc _) ⟨wr.heap.size+1,0,none⟩ 1 1 [.int .i64 0,.string ⟨#[]⟩,.int .i64 s.size,.int .i64 s.size,.int .i64 0] rfl rfl ?news (by simp[Value.oneCell']) (by have:=HDL.out;have:maxLen=9223372036854775807:=rfl;omega) (by have:=HDL.out;omega) (by have:=hF.size;simp;omega) ?_))
   case news=>exact tok_new' (wr.alloc _) _ (by simp) _ _ _ _ _
   intro v1 w3 hown1 hgrow hnil
   have F3:Fr [] w w3:=((((hF.alloc _).alloc _).sub (T:=(Value.slice av d.length cv).ownBlock.toList) (by simp)).trans (Fr.ofGrown hgrow)).sub (fun k hk=>.inr (own_lt hown k (by simpa using hk)).1)
   clear hgrow
   go_wp2
   refine bodyPost_ret (v:=.tuple #[v1,.int .i64 0,.int .i64 0]) (by simp[results,Tryz.results31,go_sem]) rfl ⟨scOut_none HSC.out ?_,F3⟩
   rw[flatT_append,flatT_one]
   exact hown1
end Go.Proofs.YtnmfcaahdeddnaaGreatDoor
