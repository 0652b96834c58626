/-
  Parts of the proof; conditions: as each says.
-/
import Derived.Laws.OwnMore
import Derived.Test.YtnmfcaahdeddnaaGreatDoorMgBOKO
set_option maxRecDepth 100000
namespace Go.Proofs.YtnmfcaahdeddnaaGreatDoor.T5
open Go.RowKit
set_option maxRecDepth 100000
set_option linter.unusedVariables false
set_option linter.unusedSimpArgs false
def IB (w:World) (g:Nat) (D:List Int) : Prop:=w.heap[g]? = some (.cells (D.map (Value.int .i64)).toArray 3 (0,0))
theorem IB.fr {w w' : World} {g:Nat} {D:List Int} {S:List Nat} (h:IB w g D) (f:Fr S w w') (hg:g∉S) : IB w' g D :=
 (f.block g (Array.getElem?_eq_some_iff.1 h).1 hg).trans h
theorem IB.lt {w:World} {g:Nat} {D:List Int} (h:IB w g D) : g<w.heap.size:=(Array.getElem?_eq_some_iff.1 h).1
theorem IB.fz {w:World} {g:Nat} {D:List Int} (h:IB w g D) (i:Nat) : w.frozen? ⟨g,i,none⟩=false:=by unfold IB at h;simp[World.frozen?,h]
theorem IB.cell {w:World} {g:Nat} {D:List Int} (h:IB w g D) {i:Nat} {v:Int} (hi:D[i]? = some v) : w.cell? ⟨g,i,none⟩=some (.int .i64 v):=by
 unfold IB at h
 simp[World.cell?,h,hi]
theorem IB.set {w:World} {g:Nat} {D:List Int} (h:IB w g D) (i:Nat) (v:Int) : IB (w.setCell ⟨g,i,none⟩ (.int .i64 v)) g (D.set i v):=by
 unfold IB
 rw[heap_setCell_same _ _ _ _ _ _ h]
 congr 2
 simp[List.map_set]
theorem info3:(Tryz.prog.info? 3).map (fun i=>(i.zero,i.size,i.bytes))=some (some (.int .i64 0),1,8):=by kernel_rfl
theorem info4:(Tryz.prog.info? 4).map (fun i=>(i.zero,i.size,i.bytes))=some (some (.bool false),1,1):=by kernel_rfl
theorem made_one (z:Value) (n:Nat) : madeCells #[z] n=(List.replicate n z).toArray:=by
 apply Array.ext'
 rw[toList_madeCells_one]
theorem make_ints (w:World) (n:Nat) (h:n≤35184372088832) : (Instr.makeSlice 26 (.int .i64 n) (.int .i64 n)).run Tryz.prog w = .ok (.slice (some ⟨w.heap.size,0,none⟩) n n) (w.alloc (.cells ((List.replicate n (0:Int)).map (Value.int .i64)).toArray 3)):=by
 obtain⟨i,hi,hz,hs,hb⟩:=info_parts info3
 have:=run_make (P:=Tryz.prog) w 26 3 i (.int .i64 0) Tryz.underlying26 hi hz .i64 .i64 n n (by omega) (Int.le_refl _) (by rw[hb];omega) (by omega)
 rw[this,hs]
 simp[Value.cells,made_one]
theorem make_bools (w:World) (n:Nat) (h:n≤35184372088832) : (Instr.makeSlice 64 (.int .i64 n) (.int .i64 n)).run Tryz.prog w = .ok (.slice (some ⟨w.heap.size,0,none⟩) n n) (w.alloc (.cells ((List.replicate n false).map Value.bool).toArray 4)):=by
 obtain⟨i,hi,hz,hs,hb⟩:=info_parts info4
 have:=run_make (P:=Tryz.prog) w 64 4 i (.bool false) Tryz.underlying64 hi hz .i64 .i64 n n (by omega) (Int.le_refl _) (by rw[hb];omega) (by omega)
 rw[this,hs]
 simp[Value.cells,made_one]
def rowD (L:List Nd) (len i:Nat) (d:Int) : List Int:=(depths L i).map (fun (n:Nat)=>(n:Int))++d::List.replicate (len-i-1) 0
theorem rowD_at {L:List Nd} {len i:Nat} {d:Int} : (rowD L len i d)[i]? = some d:=by
 unfold rowD
 rw[List.getElem?_append_right (by simp[depths_length])]
 simp[depths_length]
theorem rowD_low {L:List Nd} {len i k:Nat} {d:Int} (h:k<i) : (rowD L len i d)[k]? = some (((depths L i).getD k 0:Nat) : Int):=by
 unfold rowD
 rw[List.getElem?_append_left (by simp[depths_length];exact h)]
 simp[List.getD_eq_getElem?_getD,depths_length,h]
theorem rowD_set {L:List Nd} {len i:Nat} {d d' : Int} : (rowD L len i d).set i d' = rowD L len i d' := by
 unfold rowD
 rw[List.set_append_right _ _ (by simp[depths_length])]
 simp[depths_length]
theorem rowD_next {L:List Nd} {len i:Nat} {x:Nd} (hx:L[i]? = some x) (hl:i+1<len) : rowD L len i ((kidD (depths L i) i x.ks 1:Nat) : Int)=rowD L len (i+1) 0:=by
 unfold rowD
 rw[depths,hx]
 simp only[List.map_append,List.map_cons,List.map_nil,List.append_assoc,List.singleton_append]
 rw[show len-i-1=(len-(i+1)-1)+1 by omega,List.replicate_succ]
theorem rowD_zero {L:List Nd} {len:Nat} (h:0<len) : List.replicate len (0:Int)=rowD L len 0 0:=by
 unfold rowD
 simp only[depths,List.map_nil,List.nil_append]
 rw[show len=(len-0-1)+1 by omega,List.replicate_succ]
 simp
theorem rowD_end {L:List Nd} {len:Nat} {x:Nd} (hl:L.length=len) (hx:L[len-1]? = some x) (h:0<len) : kidD (depths L (len-1)) (len-1) x.ks 1=deepL L:=by
 unfold deepL
 rw[hl]
 conv=>rhs;rw[show len=len-1+1 by omega]
 rw[depths,hx]
 simp[List.getD_eq_getElem?_getD,depths_length]
set_option maxHeartbeats 2000000 in
theorem deep_any (B:Nat) (L:List Nd) (w:World) (a:Option Addr) (len cap:Nat) (hlen:L.length=len) (hL:NAt B w a L) (hm:len≤2600000000000) (hB:B≤w.heap.size) :
 Calls Tryz.prog 43 #[.slice a len cap] w fun e w'=>e = .returned (.int .i64 (deepL L))∧Fr [] w w' := by
 have HL:Hid (L.length=len):=hlen
 have HB:Hid (B≤w.heap.size):=hB
 clear hB
 by_cases h0:len=0
 ·have:L = []:=by rw[← List.length_eq_zero_iff,hlen,h0]
  subst this h0
  go_enter Tryz.func43,Tryz.ntmps43
  go_wp2
  go_ret
  exact⟨rfl,Fr.refl _ _⟩
 ·clear hlen
  have hmk:=make_ints w len (by omega)
  have I0:IB (w.alloc (.cells ((List.replicate len (0:Int)).map (Value.int .i64)).toArray 3)) w.heap.size (rowD L len 0 0):=by rw[← rowD_zero (by omega)];exact heap_alloc_new w _
  have f0:Fr [] w (w.alloc (.cells ((List.replicate len (0:Int)).map (Value.int .i64)).toArray 3)):=(Fr.refl _ _).alloc _
  generalize w.alloc (.cells ((List.replicate len (0:Int)).map (Value.int .i64)).toArray 3)=w0 at *
  have hpos:0<len:=by omega
  have h0' : ((len:Int) == 0)=false:=beq_int_false (by omega)
  clear h0
  go_enter Tryz.func43,Tryz.ntmps43
  go_wp2
  go_loopw [15] (fun i wr=>∃ p:Nat,p≤len∧i = .int .i64 p∧Fr [] w wr∧(p<len→IB wr w.heap.size (rowD L len p 0))∧(p=len→IB wr w.heap.size (rowD L len (len-1) (deepL L:Nat)))) (fun i _=>len-(intOf i).toNat)
  case atStart=>exact⟨0,Nat.zero_le _,rfl,f0,fun _=>I0,fun h=>by omega⟩
  case round =>
   obtain⟨p,hp,rfl,fw,hI,hJ⟩:=hrel
   clear I0 hmk
   by_cases hlt:p<len
   ·have hI:=hI hlt
    clear hJ
    have hx:L[p]? = some (L[p]'(by rw[HL.out];exact hlt)):=List.getElem?_eq_getElem _
    generalize L[p]'(by rw[HL.out];exact hlt)=x at hx
    have HX:Hid (∀ m:Nat,p+1<len→kidD (depths L p) p x.ks 1=m→rowD L len p (m:Nat)=rowD L len (p+1) 0):=fun m h e=>by rw[← e];exact rowD_next hx h
    have HY:Hid (∀ m:Nat,p+1=len→kidD (depths L p) p x.ks 1=m→rowD L len p (m:Nat)=rowD L len (len-1) (deepL L:Nat)):=fun m h e=>by
     have hp1:p=len-1:=by omega
     subst hp1
     rw[← e,rowD_end HL.out hx (by omega)]
    obtain⟨b,o,rfl,hb,hN⟩:=(hL.fr fw (by simp)) p x hx
    obtain⟨kind,text,xa,xc,ks,pl⟩:=x
    simp only at HX HY
    have hc0:=hI.cell rowD_at
    have hfz:=hI.fz p
    have hI1:=hI.set p 1
    rw[rowD_set] at hI1
    have fw1:=fw.setCell (p:=⟨w.heap.size,p,none⟩) (.inr (Nat.le_refl _)) (.int .i64 1)
    have hbw:b≠w.heap.size:=by have:=HB.out;omega
    have f1:Fr [w.heap.size] wr (wr.setCell ⟨w.heap.size,p,none⟩ (.int .i64 1)):=(Fr.refl _ _).setCell (p:=⟨w.heap.size,p,none⟩) (.inl (by simp)) _
    have hN1:=hN.fr f1 hb (by simpa using HB.out)
    have n2:_=some (Value.slice xa ks.length xc):=hN1.c2
    have hkl:ks.length≤maxLen:=hN1.kl
    have hkk:KAt B _ xa ks:=hN1.k
    unfold maxLen at hkl
    clear hI hN f1 hN1 hx
    have hb1:∀ d∈depths L p,d≤p:=depths_le L p
    have HD:∀ r:Nat,Hid ((depths L p).getD r 0≤p):=fun r=>getD_le hb1 r
    clear hb1
    go_wp2
    generalize wr.setCell ⟨w.heap.size,p,none⟩ (.int .i64 1)=w1 at *
    go_loopw [27] (fun j wq=>∃ q d:Nat,q≤ks.length∧j = .int .i64 q∧Fr [w.heap.size] w1 wq∧Fr [] w wq∧IB wq w.heap.size (rowD L len p (d:Nat))∧d≤p+1∧Hid (kidD (depths L p) p (ks.drop q) d=kidD (depths L p) p ks 1)) (fun j _=>ks.length-(intOf j).toNat)
    case atStart=>exact⟨0,1,Nat.zero_le _,rfl,Fr.refl _ _,fw1,hI1,by omega,rfl⟩
    case round =>
     obtain⟨q,d,hq,rfl,fq,fqw,hIq,hd,he⟩:=hrel
     clear hI1 hc0 hfz n2
     by_cases hql:q<ks.length
     ·have hk:ks[q]? = some ks[q]:=List.getElem?_eq_getElem hql
      have hdr:=List.drop_eq_getElem_cons hql
      generalize ks[q]=k at hk hdr
      obtain⟨kb,ko,rfl,hkb,hcell⟩:=(hkk.fr fq (by simpa using HB.out)) q k hk
      have HE:Hid (kidD (depths L p) p (ks.drop (q+1)) (if 0≤k∧k<(p:Int) then max d (1+(depths L p).getD k.toNat 0) else d)=kidD (depths L p) p ks 1):=by unfold Hid;rw[← he.out,hdr];rfl
      clear hk hdr he
      by_cases h1:k<0
      ·rw[if_neg (by omega)] at HE
       have HE2:Hid _:=HE.out
       clear HE
       go_wp2
       go_roundw
       case rel=>exact⟨q+1,d,hql,by go_num,fq,fqw,hIq,hd,HE2⟩
       case measure=>simp[intOf];omega
      ·by_cases h2:(p:Int)≤k
       ·rw[if_neg (by omega)] at HE
        have HE2:Hid _:=HE.out
        clear HE
        go_wp2
        go_roundw
        case rel=>exact⟨q+1,d,hql,by go_num,fq,fqw,hIq,hd,HE2⟩
        case measure=>simp[intOf];omega
       ·obtain⟨r,rfl⟩:=Int.eq_ofNat_of_zero_le (show 0≤k by omega)
        have hr:r<p:=by omega
        rw[if_pos (by omega)] at HE
        simp only[Int.toNat_natCast] at HE
        have HE2:Hid _:=HE.out
        clear HE
        have c1:=hIq.cell rowD_at
        have c2:=hIq.cell (rowD_low hr)
        have z1:=hIq.fz p
        have hS:=hIq.set p ((max d (1+(depths L p).getD r 0) : Nat) : Int)
        rw[rowD_set] at hS
        have hD:=(HD r).out
        generalize (depths L p).getD r 0=D at *
        go_wp2
        go_region
        have ev:max (d:Int) (1+(D:Int))=((max d (1+D) : Nat) : Int):=by omega
        rw[ev]
        have hmx:max d (1+D)≤p+1:=by omega
        have gq:=(fq.setCell (p:=⟨w.heap.size,p,none⟩) (.inl (by simp)) (.int .i64 ((max d (1+D) : Nat) : Int))).drew
        have gw:=(fqw.setCell (p:=⟨w.heap.size,p,none⟩) (.inr (Nat.le_refl _)) (.int .i64 ((max d (1+D) : Nat) : Int))).drew
        have hS' := hS.fr ((Fr.refl [] _).drew) (by simp)
        clear hS c1 c2 z1
        go_wp2
        go_roundw
        case rel=>exact⟨q+1,_,hql,by go_num,gq,gw,hS',hmx,HE2⟩
        case measure=>simp[intOf];omega
     ·have HE:Hid (d=kidD (depths L p) p ks 1):=by unfold Hid;rw[← he.out,List.drop_of_length_le (by omega)];rfl
      go_wp2
      go_roundw
      case rel =>
       refine⟨p+1,hlt,by go_num,fqw,fun h=>?_,fun h=>?_⟩
       ·rw[← HX.out d h HE.out.symm];exact hIq
       ·rw[← HY.out d h HE.out.symm];exact hIq
      case measure=>simp[intOf];omega
   ·have hpe:p=len:=by omega
    have hI:=hJ hpe
    have hx:L[len-1]? = some (L[len-1]'(by rw[HL.out];omega)):=List.getElem?_eq_getElem _
    have hc:=hI.cell rowD_at
    go_wp2
    go_ret
    exact⟨rfl,fw⟩
set_option maxHeartbeats 2000000 in
theorem rdeep_any (B:Nat) (L:List Nd) (w:World) (a:Option Addr) (len cap:Nat) (hlen:L.length=len) (hL:NAt B w a L) (hm:len≤2600000000000) (hB:B≤w.heap.size) :
 Calls Tryz.prog 36 #[.slice a len cap] w fun e w'=>e = .returned (.int .i64 (deepL L))∧Fr [] w w' := by
 have HL:Hid (L.length=len):=hlen
 have HB:Hid (B≤w.heap.size):=hB
 clear hB
 by_cases h0:len=0
 ·have:L = []:=by rw[← List.length_eq_zero_iff,hlen,h0]
  subst this h0
  have hmk:(Instr.makeSlice 26 (.int .i64 0) (.int .i64 0)).run Tryz.prog w = .ok (.slice (some ⟨w.heap.size,0,none⟩) 0 0) (w.alloc (.cells ((List.replicate 0 (0:Int)).map (Value.int .i64)).toArray 3)):=make_ints w 0 (by omega)
  have f0:Fr [] w (w.alloc (.cells ((List.replicate 0 (0:Int)).map (Value.int .i64)).toArray 3)):=(Fr.refl _ _).alloc _
  generalize w.alloc (.cells ((List.replicate 0 (0:Int)).map (Value.int .i64)).toArray 3)=w0 at *
  go_enter Tryz.func36,Tryz.ntmps36
  go_wp2
  go_loopw [13] (fun i wr=>i = .int .i64 0∧Fr [] w wr) (fun i _=>0)
  case atStart=>exact⟨rfl,f0⟩
  case round =>
   obtain⟨rfl,fw⟩:=hrel
   go_wp2
   go_ret
   exact⟨rfl,fw⟩
 ·clear hlen
  have hmk:=make_ints w len (by omega)
  have I0:IB (w.alloc (.cells ((List.replicate len (0:Int)).map (Value.int .i64)).toArray 3)) w.heap.size (rowD L len 0 0):=by rw[← rowD_zero (by omega)];exact heap_alloc_new w _
  have f0:Fr [] w (w.alloc (.cells ((List.replicate len (0:Int)).map (Value.int .i64)).toArray 3)):=(Fr.refl _ _).alloc _
  generalize w.alloc (.cells ((List.replicate len (0:Int)).map (Value.int .i64)).toArray 3)=w0 at *
  have hpos:0<len:=by omega
  have h0' : ((len:Int) == 0)=false:=beq_int_false (by omega)
  clear h0
  go_enter Tryz.func36,Tryz.ntmps36
  go_wp2
  go_loopw [13] (fun i wr=>∃ p:Nat,p≤len∧i = .int .i64 p∧Fr [] w wr∧(p<len→IB wr w.heap.size (rowD L len p 0))∧(p=len→IB wr w.heap.size (rowD L len (len-1) (deepL L:Nat)))) (fun i _=>len-(intOf i).toNat)
  case atStart=>exact⟨0,Nat.zero_le _,rfl,f0,fun _=>I0,fun h=>by omega⟩
  case round =>
   obtain⟨p,hp,rfl,fw,hI,hJ⟩:=hrel
   clear I0 hmk
   by_cases hlt:p<len
   ·have hI:=hI hlt
    clear hJ
    have hx:L[p]? = some (L[p]'(by rw[HL.out];exact hlt)):=List.getElem?_eq_getElem _
    generalize L[p]'(by rw[HL.out];exact hlt)=x at hx
    have HX:Hid (∀ m:Nat,p+1<len→kidD (depths L p) p x.ks 1=m→rowD L len p (m:Nat)=rowD L len (p+1) 0):=fun m h e=>by rw[← e];exact rowD_next hx h
    have HY:Hid (∀ m:Nat,p+1=len→kidD (depths L p) p x.ks 1=m→rowD L len p (m:Nat)=rowD L len (len-1) (deepL L:Nat)):=fun m h e=>by
     have hp1:p=len-1:=by omega
     subst hp1
     rw[← e,rowD_end HL.out hx (by omega)]
    obtain⟨b,o,rfl,hb,hN⟩:=(hL.fr fw (by simp)) p x hx
    obtain⟨kind,text,xa,xc,ks,pl⟩:=x
    simp only at HX HY
    obtain⟨q0,q1,q2,q3,hkk0,_,hkl,_,_⟩:=hN
    simp only at q0 q1 q2 q3 hkk0 hkl
    have hc0:=hI.cell rowD_at
    have hfz:=hI.fz p
    have hlw:=hI.lt
    have f1:Fr [w.heap.size] wr ((wr.setCell ⟨w.heap.size,p,none⟩ (.int .i64 1)).alloc (.cells #[.int .i64 kind,.string text,.slice xa ks.length xc,.int .i64 pl] 55)):=((Fr.refl _ _).setCell (p:=⟨w.heap.size,p,none⟩) (.inl (by simp)) _).alloc _
    have fw1:Fr [] w ((wr.setCell ⟨w.heap.size,p,none⟩ (.int .i64 1)).alloc (.cells #[.int .i64 kind,.string text,.slice xa ks.length xc,.int .i64 pl] 55)):=(fw.setCell (p:=⟨w.heap.size,p,none⟩) (.inr (Nat.le_refl _)) (.int .i64 1)).alloc _
    have hI1:=hI.set p 1
    rw[rowD_set] at hI1
    have hI2:IB ((wr.setCell ⟨w.heap.size,p,none⟩ (.int .i64 1)).alloc (.cells #[.int .i64 kind,.string text,.slice xa ks.length xc,.int .i64 pl] 55)) w.heap.size (rowD L len p 1):=hI1.fr ((Fr.refl [] _).alloc _) (by simp)
    have hkk:=hkk0.fr f1 (by simpa using HB.out)
    unfold maxLen at hkl
    clear hI hI1 hx hkk0
    have hb1:∀ d∈depths L p,d≤p:=depths_le L p
    have HD:∀ r:Nat,Hid ((depths L p).getD r 0≤p):=fun r=>getD_le hb1 r
    clear hb1
    go_wp2
    generalize (wr.setCell ⟨w.heap.size,p,none⟩ (.int .i64 1)).alloc (.cells #[.int .i64 kind,.string text,.slice xa ks.length xc,.int .i64 pl] 55)=w1 at *
    go_loopw [24] (fun j wq=>∃ q d:Nat,q≤ks.length∧j = .int .i64 q∧Fr [w.heap.size] w1 wq∧Fr [] w wq∧IB wq w.heap.size (rowD L len p (d:Nat))∧d≤p+1∧Hid (kidD (depths L p) p (ks.drop q) d=kidD (depths L p) p ks 1)) (fun j _=>ks.length-(intOf j).toNat)
    case atStart=>exact⟨0,1,Nat.zero_le _,rfl,Fr.refl _ _,fw1,hI2,by omega,rfl⟩
    case round =>
     obtain⟨q,d,hq,rfl,fq,fqw,hIq,hd,he⟩:=hrel
     clear hI2 hc0 hfz q0 q1 q2 q3
     by_cases hql:q<ks.length
     ·have hk:ks[q]? = some ks[q]:=List.getElem?_eq_getElem hql
      have hdr:=List.drop_eq_getElem_cons hql
      generalize ks[q]=k at hk hdr
      obtain⟨kb,ko,rfl,hkb,hcell⟩:=(hkk.fr fq (by simpa using HB.out)) q k hk
      have HE:Hid (kidD (depths L p) p (ks.drop (q+1)) (if 0≤k∧k<(p:Int) then max d (1+(depths L p).getD k.toNat 0) else d)=kidD (depths L p) p ks 1):=by unfold Hid;rw[← he.out,hdr];rfl
      clear hk hdr he
      by_cases h1:k<0
      ·rw[if_neg (by omega)] at HE
       have HE2:Hid _:=HE.out
       clear HE
       go_wp2
       go_roundw
       case rel=>exact⟨q+1,d,hql,by go_num,fq,fqw,hIq,hd,HE2⟩
       case measure=>simp[intOf];omega
      ·by_cases h2:(p:Int)≤k
       ·rw[if_neg (by omega)] at HE
        have HE2:Hid _:=HE.out
        clear HE
        go_wp2
        go_roundw
        case rel=>exact⟨q+1,d,hql,by go_num,fq,fqw,hIq,hd,HE2⟩
        case measure=>simp[intOf];omega
       ·obtain⟨r,rfl⟩:=Int.eq_ofNat_of_zero_le (show 0≤k by omega)
        have hr:r<p:=by omega
        rw[if_pos (by omega)] at HE
        simp only[Int.toNat_natCast] at HE
        have HE2:Hid _:=HE.out
        clear HE
        have c1:=hIq.cell rowD_at
        have c2:=hIq.cell (rowD_low hr)
        have z1:=hIq.fz p
        have hS:=hIq.set p ((max d (1+(depths L p).getD r 0) : Nat) : Int)
        rw[rowD_set] at hS
        have hD:=(HD r).out
        generalize (depths L p).getD r 0=D at *
        go_wp2
        go_region
        have ev:max (d:Int) ((D:Int)+1)=((max d (1+D) : Nat) : Int):=by omega
        rw[ev]
        have hmx:max d (1+D)≤p+1:=by omega
        have gq:=(fq.setCell (p:=⟨w.heap.size,p,none⟩) (.inl (by simp)) (.int .i64 ((max d (1+D) : Nat) : Int))).drew
        have gw:=(fqw.setCell (p:=⟨w.heap.size,p,none⟩) (.inr (Nat.le_refl _)) (.int .i64 ((max d (1+D) : Nat) : Int))).drew
        have hS' := hS.fr ((Fr.refl [] _).drew) (by simp)
        clear hS c1 c2 z1
        go_wp2
        go_roundw
        case rel=>exact⟨q+1,_,hql,by go_num,gq,gw,hS',hmx,HE2⟩
        case measure=>simp[intOf];omega
     ·have HE:Hid (d=kidD (depths L p) p ks 1):=by unfold Hid;rw[← he.out,List.drop_of_length_le (by omega)];rfl
      go_wp2
      go_roundw
      case rel =>
       refine⟨p+1,hlt,by go_num,fqw,fun h=>?_,fun h=>?_⟩
       ·rw[← HX.out d h HE.out.symm];exact hIq
       ·rw[← HY.out d h HE.out.symm];exact hIq
      case measure=>simp[intOf];omega
   ·have hpe:p=len:=by omega
    have hI:=hJ hpe
    have hx:L[len-1]? = some (L[len-1]'(by rw[HL.out];omega)):=List.getElem?_eq_getElem _
    have hc:=hI.cell rowD_at
    go_wp2
    go_ret
    exact⟨rfl,fw⟩
theorem _root_.Go.Proofs.YtnmfcaahdeddnaaGreatDoor.Fr.over {S:List Nat} {a b c:World} (h:Fr [] a b) (k:Fr S b c) (hS:∀ i,i∈S→a.heap.size≤i) : Fr [] a c :=
 ⟨k.os.trans h.os,k.tape.trans h.tape,k.output.trans h.output,Nat.le_trans h.size k.size,fun i hi _=>(k.block i (Nat.lt_of_lt_of_le hi h.size) (fun hm=>by have:=hS i hm;omega)).trans (h.block i hi (by simp))⟩
def has0 (T:List Bool) (n:Nat) : Bool:=(T.take n).contains false
theorem take_snocB {T:List Bool} {p:Nat} (h:p<T.length) : has0 T (p+1)=(has0 T p || !(T.getD p false)):=by
 unfold has0
 rw[List.take_add_one,List.getElem?_eq_getElem h]
 simp only[Option.toList_some,List.contains_eq_any_beq,List.any_append,List.any_cons,List.any_nil,Bool.or_false]
 simp[List.getD_eq_getElem?_getD,h]
theorem contains_mono {T:List Bool} {p n:Nat} (h:p≤n) (hc:has0 T p=true) : has0 T n=true:=by
 unfold has0 at *
 rw[List.contains_iff_mem] at *
 exact List.mem_of_mem_take (by rw[List.take_take,Nat.min_eq_left h];exact hc:false∈(T.take n).take p)
theorem index_any (w:World) (g:Nat) (T:List Bool) (n cap:Nat) (hT:TB w g T) (hn:n≤T.length) (hm:n≤maxLen) :
 Calls Tryz.prog 86 #[.slice (some ⟨g,0,none⟩) n cap,.bool false] w fun e w'=>(∃ z:Int,e = .returned (.int .i64 z)∧decide (0≤z)=has0 T n)∧w' = w:=by
 unfold maxLen at hm
 have HN:Hid (n≤T.length):=hn
 clear hn
 go_enter Tryz.func86,Tryz.ntmps86
 go_wp2
 go_loop [8] (fun i=>∃ p:Nat,p≤n∧i = .int .i64 p∧Hid (has0 T p=false)) (fun i=>n-(intOf i).toNat)
 case atStart=>exact⟨0,Nat.zero_le _,rfl,by unfold Hid has0;simp⟩
 case round =>
  obtain⟨p,hp,rfl,he⟩:=hrel
  by_cases hlt:p<n
  ·have hpl:p<T.length:=by have:=HN.out;omega
   have hc:=hT.cell hpl
   have HS:Hid _:=take_snocB hpl
   clear hpl
   cases hb:T.getD p false with
   | true =>
     rw[hb] at hc
     have HR:Hid (has0 T (p+1)=false):=by unfold Hid;rw[HS.out,he.out,hb];rfl
     clear HS hb
     go_wp2
     go_round
     case rel=>exact⟨p+1,hlt,by go_num,HR⟩
     case measure=>simp[intOf];omega
   | false =>
     rw[hb] at hc
     have HR:Hid (has0 T (p+1)=true):=by unfold Hid;rw[HS.out,hb];simp
     clear HS hb
     go_wp2
     go_ret
     exact⟨⟨p,rfl,by rw[contains_mono hlt HR.out];simp⟩,rfl⟩
  ·have:p=n:=by omega
   subst this
   go_wp2
   go_ret
   exact⟨⟨-1,rfl,by rw[he.out];rfl⟩,rfl⟩
theorem contains_any (w:World) (g:Nat) (T:List Bool) (n cap:Nat) (hT:TB w g T) (hn:n≤T.length) (hm:n≤maxLen) :
 Calls Tryz.prog 49 #[.slice (some ⟨g,0,none⟩) n cap,.bool false] w fun e w'=>e = .returned (.bool (has0 T n))∧w' = w:=by
 have C:=index_any w g T n cap hT hn hm
 generalize has0 T n=R at *
 go_enter Tryz.func49,Tryz.ntmps49
 go_wp2_with fail
 refine C.mono ?_
 rintro e w' ⟨⟨z,rfl,hz⟩,rfl⟩
 have HZ:Hid _:=hz
 clear hz
 go_wp2
 go_ret
 exact⟨congrArg (fun b=>Ending.returned (Value.bool b)) HZ.out,rfl⟩
def cOut (x:Nat×Nat) : Ending:=.returned (.tuple #[.int .i64 x.1,.int .i64 x.2])
theorem node_err {L:List Nd} {n:Nat} {x:Nd} {T:List Bool} {e:Nat} (h:nodeE L n x T = .error e) : e=50∨e=52∨e=53:=by
 unfold nodeE at h
 split at h
 ·cases h;simp
 ·split at h
  ·cases h;simp
  ·split at h
   ·cases h;simp
   ·split at h
    ·cases h;simp
    ·split at h
     ·cases h;simp
     ·cases h
section
variable {L:List Nd} {T:List Bool}
theorem check_long (h:50000<L.length) : checkL L=(0,2):=by unfold checkL;rw[if_pos h]
theorem check_err (h:¬ 50000<L.length) {e:Nat×Nat} (hn:nodesL L L.length = .error e) : checkL L=e:=by unfold checkL;rw[if_neg h,hn]
theorem check_empty (h:L.length=0) : checkL L=(0,50):=by
 have:L = []:=by rw[← List.length_eq_zero_iff];exact h
 subst this;rfl
theorem check_last (h:¬ 50000<L.length) (hn:nodesL L L.length = .ok T) (h0:L.length≠0) (hb:kd L ((L.length-1:Nat) : Int)≠1∨has0 T (L.length-1)=true) : checkL L=(L.length-1,50):=by
 unfold checkL;rw[if_neg h,hn];simp only;rw[if_neg h0];exact if_pos hb
theorem check_deep (h:¬ 50000<L.length) (hn:nodesL L L.length = .ok T) (h0:L.length≠0) (hk:kd L ((L.length-1:Nat) : Int)=1) (hb:has0 T (L.length-1)=false) (hd:200<deepL L) : checkL L=(0,51):=by
 unfold checkL;rw[if_neg h,hn];simp only;rw[if_neg h0,if_neg (fun hh=>by rcases hh with hh | hh;exact hh hk;have:has0 T (L.length-1)=true:=hh;rw[hb] at this;cases this),if_pos hd]
theorem check_ok (h:¬ 50000<L.length) (hn:nodesL L L.length = .ok T) (h0:L.length≠0) (hk:kd L ((L.length-1:Nat) : Int)=1) (hb:has0 T (L.length-1)=false) (hd:¬ 200<deepL L) : checkL L=(0,0):=by
 unfold checkL;rw[if_neg h,hn];simp only;rw[if_neg h0,if_neg (fun hh=>by rcases hh with hh | hh;exact hh hk;have:has0 T (L.length-1)=true:=hh;rw[hb] at this;cases this),if_neg hd]
end
set_option maxHeartbeats 2000000 in
theorem check_any (B:Nat) (L:List Nd) (w:World) (a:Option Addr) (len cap:Nat) (hlen:L.length=len) (hL:NAt B w a L) (hm:len≤2600000000000) (hB:B≤w.heap.size) (TT:Tabs w) :
 Calls Tryz.prog 23 #[.slice a len cap] w fun e w'=>e=cOut (checkL L)∧Fr [] w w' := by
 have HL:Hid (L.length=len):=hlen
 have HB:Hid (B≤w.heap.size):=hB
 have HTL:Hid (7≤w.heap.size):=TT.len
 have hLL:=hlen
 clear hB hlen
 by_cases h0:50000<len
 ·have HC:Hid (checkL L=(0,2)):=check_long (by rw[HL.out];exact h0)
  go_enter Tryz.func23,Tryz.ntmps23
  go_wp2
  go_ret2
  exact⟨by rw[HC.out];rfl,Fr.refl _ _⟩
 ·have HS:Hid (¬ 50000<L.length):=by unfold Hid;rw[HL.out];exact h0
  have hmk:=make_bools (w.alloc (.map (Es 30) 30)) len (by omega)
  simp only[World.size_alloc] at hmk
  have M0:WM ((w.alloc (.map (Es 30) 30)).alloc (.cells ((List.replicate len false).map Value.bool).toArray 4)) w.heap.size:=by
   have:=WM.fr (w:=w.alloc (.map (Es 30) 30)) (g:=w.heap.size) (heap_alloc_new w _) ((Fr.refl [] _).alloc (.cells ((List.replicate len false).map Value.bool).toArray 4)) (by simp)
   exact this
  have T0:TB ((w.alloc (.map (Es 30) 30)).alloc (.cells ((List.replicate len false).map Value.bool).toArray 4)) (w.heap.size+1) (List.replicate len false):=by
   have:=heap_alloc_new (w.alloc (.map (Es 30) 30)) (.cells ((List.replicate len false).map Value.bool).toArray 4)
   simp only[World.size_alloc] at this
   exact this
  have f0:Fr [] w ((w.alloc (.map (Es 30) 30)).alloc (.cells ((List.replicate len false).map Value.bool).toArray 4)):=((Fr.refl _ _).alloc _).alloc _
  generalize hw0:(w.alloc (.map (Es 30) 30)).alloc (.cells ((List.replicate len false).map Value.bool).toArray 4)=w0 at *
  clear hw0
  go_enter Tryz.func23,Tryz.ntmps23
  go_wp2_with (go_at_call 47;refine (wants_any _).mono ?_;rintro e w' ⟨rfl,rfl⟩)
  go_loopw [18] (fun i wr=>∃ p:Nat,p≤len∧i = .int .i64 p∧Fr [] w wr∧WM wr w.heap.size∧∃ T:List Bool,TB wr (w.heap.size+1) T∧T.length=len∧Hid (nodesL L p = .ok T)) (fun i _=>len-(intOf i).toNat)
  case atStart=>exact⟨0,Nat.zero_le _,rfl,f0,M0,_,T0,by simp,by unfold Hid;rw[nodesL,HL.out]⟩
  case round =>
   obtain⟨p,hp,rfl,fw,hM,T,hT,hTl,he⟩:=hrel
   clear M0 T0 hmk
   have HTl:Hid (T.length=len):=hTl
   by_cases hlt:p<len
   ·have hx:L[p]? = some (L[p]'(by rw[HL.out];exact hlt)):=List.getElem?_eq_getElem _
    generalize L[p]'(by rw[HL.out];exact hlt)=x at hx
    have hsz:=fw.size
    have C:=checkNode_any B L wr a len cap hLL (hL.fr fw (by simp)) (by unfold maxLen;omega) (by have:=HB.out;omega) p x hx w.heap.size (w.heap.size+1) T len hM hT hTl (by have:=HB.out;omega) (TT.fr fw (by simp)) (by have:=HTL.out;omega) (by omega)
    have HX:Hid (L[p]? = some x):=hx
    clear hx hTl hT hsz
    cases hn:nodeE L p x T with
    | error er =>
      have HR:Hid (nodesL L L.length = .error (p,er)):=nodes_err he.out HX.out hn
      rw[hn] at C
      have her:=node_err hn
      have hne:((er:Int) == 0)=false:=beq_int_false (by omega)
      clear hn her
      go_wp2_with (go_at_call 48;refine C.mono ?_;rintro e w' ⟨he2,f2,_⟩;rw[errOf] at he2;subst he2)
      go_ret2
      exact⟨by rw[check_err HS.out HR.out];rfl,fw.over f2 (by simp)⟩
    | ok T' =>
      have HR:Hid (nodesL L (p+1) = .ok T'):=nodes_ok he.out HX.out hn
      rw[hn] at C
      have hl' := node_length hn
      have HTl' : Hid (T'.length=len):=by unfold Hid;rw[hl',HTl.out]
      clear hn hl'
      go_wp2_with (go_at_call 48;refine C.mono ?_;rintro e w' ⟨he2,f2,hT2⟩;rw[errOf] at he2;subst he2)
      go_roundw
      case rel=>exact⟨p+1,hlt,by go_num,fw.over f2 (by simp),hM.fr f2 (by simp),T',hT2 T' rfl,HTl'.out,HR⟩
      case measure=>simp[intOf];omega
   ·have hpe:p=len:=by omega
    subst hpe
    have HN:Hid (nodesL L L.length = .ok T):=by unfold Hid;rw[HL.out];exact he.out
    clear he
    by_cases hz:p=0
    ·subst hz
     have HR:Hid (checkL L=(0,50)):=check_empty HL.out
     go_wp2
     go_ret2
     exact⟨by rw[HR.out];rfl,fw⟩
    ·have HZ:Hid (L.length≠0):=by unfold Hid;rw[HL.out];exact hz
     have hx:L[p-1]? = some (L[p-1]'(by rw[HL.out];omega)):=List.getElem?_eq_getElem _
     generalize L[p-1]'(by rw[HL.out];omega)=x at hx
     have HK:Hid (kd L ((L.length-1:Nat) : Int)=x.kind):=by unfold Hid;rw[HL.out];exact kd_at hx
     obtain⟨b,o,rfl,hb,hN⟩:=(hL.fr fw (by simp)) (p-1) x hx
     have c0:=hN.c0
     have hp1:(p:Int)-1=((p-1:Nat) : Int):=by omega
     have hsz:=fw.size
     clear hN hx
     by_cases hk:x.kind=1
     ·have CC:=contains_any wr (w.heap.size+1) T (p-1) p hT (by rw[hTl];omega) (by unfold maxLen;omega)
      have CD:=fun w' (f:Fr [] w w')=>deep_any B L w' (some ⟨b,o,none⟩) p cap hLL (hL.fr f (by simp)) hm (by have:=f.size;have:=HB.out;omega)
      have HK1:Hid (kd L ((L.length-1:Nat) : Int)=1):=by unfold Hid;rw[HK.out,hk]
      have HQ:Hid (p=L.length):=HL.out.symm
      go_wp2_with fail
      refine CC.mono ?_
      rintro e w' ⟨rfl,rfl⟩
      cases hc:has0 T (p-1) with
      | true =>
        have HR:Hid (checkL L=(p-1,50)):=by unfold Hid;rw[check_last HS.out HN.out HZ.out (.inr (by rw[HL.out];exact hc)),HL.out]
        clear CD hc CC
        go_wp2
        go_ret2
        exact⟨by rw[HR.out];rfl,fw⟩
      | false =>
        have HH:Hid (has0 T (L.length-1)=false):=by unfold Hid;rw[HL.out];exact hc
        have hdl:deepL L≤p:=by have:=deepL_le L;rw[HL.out] at this;exact this
        clear hc CC
        go_wp2_with fail
        refine (CD _ fw).mono ?_
        rintro e w2 ⟨rfl,f2⟩
        by_cases hd:200<deepL L
        ·have HR:Hid (checkL L=(0,51)):=check_deep HS.out HN.out HZ.out HK1.out HH.out hd
         clear CD
         generalize deepL L=DD at *
         go_wp2
         go_ret2
         exact⟨by rw[HR.out];rfl,fw.trans f2⟩
        ·have HR:Hid (checkL L=(0,0)):=check_ok HS.out HN.out HZ.out HK1.out HH.out hd
         clear CD
         generalize deepL L=DD at *
         go_wp2
         go_ret2
         exact⟨by rw[HR.out];rfl,fw.trans f2⟩
     ·have hk' : (x.kind == 1)=false:=by simp[hk]
      have HR:Hid (checkL L=(p-1,50)):=by unfold Hid;rw[check_last HS.out HN.out HZ.out (.inl (by rw[HK.out];exact hk)),HL.out]
      clear HK
      go_wp2
      all_goals first | (exfalso;omega) | skip
      go_ret2
      exact⟨by rw[HR.out];rfl,fw⟩
section
variable {B:Nat} {w:World} {K:List Int} {a:Option Addr} {m c:Nat}
end
end Go.Proofs.YtnmfcaahdeddnaaGreatDoor.T5
namespace Go.Proofs.YtnmfcaahdeddnaaGreatDoor.T5
open Go.RowKit
set_option linter.unusedVariables false
set_option linter.unusedSimpArgs false
theorem blk_new (w:World) (o:Obj) : (w.alloc o).heap[w.heap.size]? = some o:=heap_alloc_new w o
theorem blk_old {w:World} {k:Nat} {o p:Obj} (h:w.heap[k]? = some o) : (w.alloc p).heap[k]? = some o:=(Below.heap_alloc _ _ _ (Array.getElem?_eq_some_iff.1 h).1).trans h
def ksEq (a b:List Int) : Bool:=a == b
def txEq (s t:ByteArray) : Bool:=s.toList == t.toList
def ndEq (x y:Nd) : Bool:=x.kind == y.kind&&txEq x.text y.text&&ksEq x.ks y.ks
def sameL:List Nd→List Nd→Bool
 | [],[]=>true
 | x::a,y::b=>ndEq x y&&sameL a b
 | _,_=>false
theorem same_len:∀ (a b:List Nd),a.length≠b.length→sameL a b=false
 | [],[],h=>by simp at h
 | [],_::_,_=>rfl
 | _::_,[],_=>rfl
 | x::a,y::b,h=>by rw[sameL,same_len a b (by simpa using h),Bool.and_false]
theorem same_at {a b:List Nd} {p:Nat} {x y:Nd} (hx:a[p]? = some x) (hy:b[p]? = some y) : sameL (a.drop p) (b.drop p)=(ndEq x y&&sameL (a.drop (p+1)) (b.drop (p+1))):=by
 obtain⟨h1,e1⟩:=List.getElem?_eq_some_iff.1 hx
 obtain⟨h2,e2⟩:=List.getElem?_eq_some_iff.1 hy
 rw[List.drop_eq_getElem_cons h1,List.drop_eq_getElem_cons h2,e1,e2,sameL]
theorem ks_at {a b:List Int} {p:Nat} {x y:Int} (hx:a[p]? = some x) (hy:b[p]? = some y) : ksEq (a.drop p) (b.drop p)=((x == y)&&ksEq (a.drop (p+1)) (b.drop (p+1))):=by
 obtain⟨h1,e1⟩:=List.getElem?_eq_some_iff.1 hx
 obtain⟨h2,e2⟩:=List.getElem?_eq_some_iff.1 hy
 unfold ksEq
 rw[List.drop_eq_getElem_cons h1,List.drop_eq_getElem_cons h2,e1,e2,List.cons_beq_cons]
set_option maxHeartbeats 2000000 in
theorem rsame_any (B:Nat) (w:World) (L M:List Nd) (a b:Option Addr) (m n ac bc:Nat) (ha:L.length=m) (hb:M.length=n) (hm:m≤maxLen) (hn:n≤maxLen) (hA:NAt B w a L) (hBt:NAt B w b M) :
 Calls Tryz.prog 10 #[.slice a m ac,.slice b n bc] w fun e w'=>e = .returned (.bool (sameL L M))∧Fr [] w w' := by
 have z1:∀ (w:World) (o:Obj),(w.alloc o).heap.size=w.heap.size+1:=fun _ _=>by simp
 unfold maxLen at hm hn
 have HA:Hid (L.length=m):=ha
 have HB:Hid (M.length=n):=hb
 clear ha hb
 by_cases hmn:m=n
 ·subst hmn
  go_enter Tryz.func10,Tryz.ntmps10
  go_wp2
  go_loopw [16] (fun i wr=>∃ p:Nat,p≤m∧i = .int .i64 p∧Fr [] w wr∧Hid (sameL (L.drop p) (M.drop p)=sameL L M)) (fun i _=>m-(intOf i).toNat)
  case atStart=>exact⟨0,Nat.zero_le _,rfl,Fr.refl _ _,rfl⟩
  case round =>
   obtain⟨p,hp,rfl,fw,he⟩:=hrel
   by_cases hlt:p<m
   ·have hx:L[p]? = some (L[p]'(by rw[HA.out];exact hlt)):=List.getElem?_eq_getElem _
    have hy:M[p]? = some (M[p]'(by rw[HB.out];exact hlt)):=List.getElem?_eq_getElem _
    generalize L[p]'(by rw[HA.out];exact hlt)=x at hx
    generalize M[p]'(by rw[HB.out];exact hlt)=y at hy
    obtain⟨b1,o1,rfl,hb1,c1⟩:=(hA.fr fw (by simp)) p x hx
    obtain⟨b2,o2,rfl,hb2,c2⟩:=(hBt.fr fw (by simp)) p y hy
    have HS:Hid _:=same_at hx hy
    clear hx hy hA hBt
    have l1:=World.block_lt_of_cell? wr _ c1.c0
    have l2:=World.block_lt_of_cell? wr _ c2.c0
    simp only at l1 l2
    obtain⟨kx,tx,xa,xc,xs,px⟩:=x
    obtain⟨ky,ty,ya,yc,ys,py⟩:=y
    obtain⟨p0,p1,p2,p3,hkx,_,hlx,_,_⟩:=c1
    obtain⟨q0,q1,q2,q3,hky,_,hly,_,_⟩:=c2
    simp only at p0 p1 p2 p3 q0 q1 q2 q3 hkx hky hlx hly
    unfold maxLen at hlx hly
    go_wp2
    go_region
    have Bx:((wr.alloc (.cells #[.int .i64 kx,.string tx,.slice xa xs.length xc,.int .i64 px] 55)).alloc (.cells #[.int .i64 ky,.string ty,.slice ya ys.length yc,.int .i64 py] 55)).drew.heap[wr.heap.size]? = some (.cells #[.int .i64 kx,.string tx,.slice xa xs.length xc,.int .i64 px] 55):=blk_old (blk_new wr _)
    have By:((wr.alloc (.cells #[.int .i64 kx,.string tx,.slice xa xs.length xc,.int .i64 px] 55)).alloc (.cells #[.int .i64 ky,.string ty,.slice ya ys.length yc,.int .i64 py] 55)).drew.heap[wr.heap.size+1]? = some (.cells #[.int .i64 ky,.string ty,.slice ya ys.length yc,.int .i64 py] 55):=by
     have:=blk_new (wr.alloc (.cells #[.int .i64 kx,.string tx,.slice xa xs.length xc,.int .i64 px] 55)) (.cells #[.int .i64 ky,.string ty,.slice ya ys.length yc,.int .i64 py] 55)
     rw[z1] at this
     exact this
    have fa:Fr [] wr ((wr.alloc (.cells #[.int .i64 kx,.string tx,.slice xa xs.length xc,.int .i64 px] 55)).alloc (.cells #[.int .i64 ky,.string ty,.slice ya ys.length yc,.int .i64 py] 55)).drew:=(((Fr.refl _ _).alloc _).alloc _).drew
    generalize ((wr.alloc (.cells #[.int .i64 kx,.string tx,.slice xa xs.length xc,.int .i64 px] 55)).alloc (.cells #[.int .i64 ky,.string ty,.slice ya ys.length yc,.int .i64 py] 55)).drew=A at *
    generalize wr.heap.size+1=gy at *
    generalize wr.heap.size=gx at *
    rotate_left
    have By:((wr.alloc (.cells #[.int .i64 ky,.string ty,.slice ya ys.length yc,.int .i64 py] 55)).alloc (.cells #[.int .i64 kx,.string tx,.slice xa xs.length xc,.int .i64 px] 55)).drew.heap[wr.heap.size]? = some (.cells #[.int .i64 ky,.string ty,.slice ya ys.length yc,.int .i64 py] 55):=blk_old (blk_new wr _)
    have Bx:((wr.alloc (.cells #[.int .i64 ky,.string ty,.slice ya ys.length yc,.int .i64 py] 55)).alloc (.cells #[.int .i64 kx,.string tx,.slice xa xs.length xc,.int .i64 px] 55)).drew.heap[wr.heap.size+1]? = some (.cells #[.int .i64 kx,.string tx,.slice xa xs.length xc,.int .i64 px] 55):=by
     have:=blk_new (wr.alloc (.cells #[.int .i64 ky,.string ty,.slice ya ys.length yc,.int .i64 py] 55)) (.cells #[.int .i64 kx,.string tx,.slice xa xs.length xc,.int .i64 px] 55)
     rw[z1] at this
     exact this
    have fa:Fr [] wr ((wr.alloc (.cells #[.int .i64 ky,.string ty,.slice ya ys.length yc,.int .i64 py] 55)).alloc (.cells #[.int .i64 kx,.string tx,.slice xa xs.length xc,.int .i64 px] 55)).drew:=(((Fr.refl _ _).alloc _).alloc _).drew
    generalize ((wr.alloc (.cells #[.int .i64 ky,.string ty,.slice ya ys.length yc,.int .i64 py] 55)).alloc (.cells #[.int .i64 kx,.string tx,.slice xa xs.length xc,.int .i64 px] 55)).drew=A at *
    generalize wr.heap.size+1=gx at *
    generalize wr.heap.size=gy at *
    rotate_left
    all_goals
     have x0:∀ w',Fr [] A w'→w'.cell? ⟨gx,0,none⟩=some (.int .i64 kx):=fun w' f=>f.cell1 (by simp[World.cell?,Bx]) (by simp)
     have x1:∀ w',Fr [] A w'→w'.cell? ⟨gx,1,none⟩=some (.string tx):=fun w' f=>f.cell1 (by simp[World.cell?,Bx]) (by simp)
     have x2:∀ w',Fr [] A w'→w'.cell? ⟨gx,2,none⟩=some (.slice xa xs.length xc):=fun w' f=>f.cell1 (by simp[World.cell?,Bx]) (by simp)
     have y0:∀ w',Fr [] A w'→w'.cell? ⟨gy,0,none⟩=some (.int .i64 ky):=fun w' f=>f.cell1 (by simp[World.cell?,By]) (by simp)
     have y1:∀ w',Fr [] A w'→w'.cell? ⟨gy,1,none⟩=some (.string ty):=fun w' f=>f.cell1 (by simp[World.cell?,By]) (by simp)
     have y2:∀ w',Fr [] A w'→w'.cell? ⟨gy,2,none⟩=some (.slice ya ys.length yc):=fun w' f=>f.cell1 (by simp[World.cell?,By]) (by simp)
     have kx1:=hkx.fr fa (by simp)
     have ky1:=hky.fr fa (by simp)
     have F1:=fw.trans fa
     have X0:=x0 A (Fr.refl _ _)
     have X1:=x1 A (Fr.refl _ _)
     have X2:=x2 A (Fr.refl _ _)
     have Y0:=y0 A (Fr.refl _ _)
     have Y1:=y1 A (Fr.refl _ _)
     have Y2:=y2 A (Fr.refl _ _)
     have HS:Hid (sameL (L.drop p) (M.drop p)=((kx == ky&&(tx.toList == ty.toList)&&ksEq xs ys)&&sameL (L.drop (p+1)) (M.drop (p+1)))):=HS
     clear hkx hky fa Bx By p0 p1 p2 p3 q0 q1 q2 q3 fw l1 l2 x0 x1 y0 y1
     by_cases h1:kx=ky
     ·subst h1
      cases h2:(tx.toList == ty.toList) with
      | false =>
        have HR:Hid (sameL L M=false):=by unfold Hid;rw[← he.out,HS.out,h2];simp
        clear HS x2 y2
        go_wp2
        all_goals first | (exfalso;simp_all;done) | skip
        go_ret
        exact⟨by rw[HR.out];rfl,F1⟩
      | true =>
        by_cases h3:xs.length=ys.length
        ·have HS2:Hid (sameL (L.drop p) (M.drop p)=(ksEq xs ys&&sameL (L.drop (p+1)) (M.drop (p+1)))):=by unfold Hid;rw[HS.out,h2];simp
         clear HS
         generalize hyl:ys.length=yl at *
         subst h3
         have HL3:Hid (ys.length=xs.length):=hyl
         clear hyl
         go_wp2
         go_loopw [51] (fun j wq=>∃ q:Nat,q≤xs.length∧j = .int .i64 q∧Fr [] A wq∧Hid (ksEq (xs.drop q) (ys.drop q)=ksEq xs ys)) (fun j _=>xs.length-(intOf j).toNat)
         case atStart=>exact⟨0,Nat.zero_le _,rfl,Fr.refl _ _,rfl⟩
         case round =>
          obtain⟨q,hq,rfl,fq,hk⟩:=hrel
          clear X0 X1 X2 Y0 Y1 Y2
          by_cases hql:q<xs.length
          ·have hu:xs[q]? = some xs[q]:=List.getElem?_eq_getElem hql
           have hv:ys[q]? = some (ys[q]'(by rw[HL3.out];exact hql)):=List.getElem?_eq_getElem _
           generalize xs[q]=u at hu
           generalize ys[q]'(by rw[HL3.out];exact hql)=v at hv
           obtain⟨b3,o3,rfl,_,c3⟩:=(kx1.fr fq (by simp)) q u hu
           obtain⟨b4,o4,rfl,_,c4⟩:=(ky1.fr fq (by simp)) q v hv
           have X2:=x2 _ fq
           have Y2:=y2 _ fq
           have HKS:Hid _:=ks_at hu hv
           clear hu hv x2 y2 kx1 ky1
           by_cases huv:u=v
           ·subst huv
            have HR:Hid (ksEq (xs.drop (q+1)) (ys.drop (q+1))=ksEq xs ys):=by unfold Hid;rw[← hk.out,HKS.out];simp
            clear HKS
            go_wp2
            go_quiet (fail)
            go_wp2
            go_roundw
            case rel=>exact⟨q+1,hql,by go_num,fq.drewN _,HR⟩
            case measure=>simp[intOf];omega
           ·have huv' : (u == v)=false:=by simp[huv]
            have HR:Hid (sameL L M=false):=by unfold Hid;rw[← he.out,HS2.out,← hk.out,HKS.out,huv'];simp
            clear HKS huv
            go_wp2
            go_quiet (fail)
            go_wp2
            go_ret
            exact⟨by rw[HR.out];rfl,(F1.trans fq).drewN _⟩
          ·have HKE:Hid (ksEq xs ys=true):=by
            unfold Hid
            rw[← hk.out,List.drop_of_length_le (by omega),List.drop_of_length_le (by rw[HL3.out];omega)]
            rfl
           have HR:Hid (sameL (L.drop (p+1)) (M.drop (p+1))=sameL L M):=by unfold Hid;rw[← he.out,HS2.out,HKE.out,Bool.true_and]
           clear HS2 HKE hk x2 y2
           go_wp2
           go_roundw
           case rel=>exact⟨p+1,hlt,by go_num,F1.trans fq,HR⟩
           case measure=>simp[intOf];omega
        ·have h3' : ((xs.length:Int) == (ys.length:Int))=false:=beq_int_false (by omega)
         have HR:Hid (sameL L M=false):=by
          unfold Hid
          have:ksEq xs ys=false:=by
           unfold ksEq
           rw[Bool.eq_false_iff]
           intro h
           have h4:xs=ys:=by simpa using h
           exact h3 (by rw[h4])
          rw[← he.out,HS.out,this];simp
         clear HS x2 y2
         go_wp2
         all_goals first | (exfalso;simp_all;done) | skip
         go_ret
         exact⟨by rw[HR.out];rfl,F1⟩
     ·have h1' : (kx == ky)=false:=by simp[h1]
      have HR:Hid (sameL L M=false):=by unfold Hid;rw[← he.out,HS.out,h1'];simp
      clear HS x2 y2
      go_wp2
      all_goals first | (exfalso;omega) | skip
      go_ret
      exact⟨by rw[HR.out];rfl,F1⟩
   ·have HE:Hid (sameL L M=true):=by
     unfold Hid
     rw[← he.out,List.drop_of_length_le (by rw[HA.out];omega),List.drop_of_length_le (by rw[HB.out];omega)]
     rfl
    go_wp2
    go_ret
    exact⟨by rw[HE.out];rfl,fw⟩
 ·have HR:Hid (sameL L M=false):=same_len L M (by rw[HA.out,HB.out];exact hmn)
  have hne:((m:Int) == (n:Int))=false:=beq_int_false (by omega)
  go_enter Tryz.func10,Tryz.ntmps10
  go_wp2
  go_ret
  exact⟨by rw[HR.out];rfl,Fr.refl _ _⟩
end Go.Proofs.YtnmfcaahdeddnaaGreatDoor.T5
