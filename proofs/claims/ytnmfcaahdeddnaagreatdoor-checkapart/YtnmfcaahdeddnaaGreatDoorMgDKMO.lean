/-
  Parts of the proof; conditions: as each says.
-/
import Derived.Laws.OwnMore
import Derived.Test.YtnmfcaahdeddnaaGreatDoorMgKFHK
set_option maxRecDepth 100000
namespace Go.Proofs.YtnmfcaahdeddnaaGreatDoor
open Go.RowKit
set_option linter.unusedVariables false
set_option linter.unusedSimpArgs false
structure Nd where
 kind:Int
 text:ByteArray
 a:Option Addr
 c:Nat
 ks:List Int
 pl:Int
def KAt (B:Nat) (w:World) (a:Option Addr) (ks:List Int) : Prop:=∀ (j:Nat) (k:Int),ks[j]? = some k→∃ b o,a=some ⟨b,o,none⟩∧b<B∧w.cell? ⟨b,o+j,none⟩=some (.int .i64 k)
structure NCell (B:Nat) (w:World) (b o:Nat) (x:Nd) : Prop where
 c0:w.cell? ⟨b,o,none⟩=some (.int .i64 x.kind)
 c1:w.cell? ⟨b,o+1,none⟩=some (.string x.text)
 c2:w.cell? ⟨b,o+2,none⟩=some (.slice x.a x.ks.length x.c)
 c3:w.cell? ⟨b,o+3,none⟩=some (.int .i64 x.pl)
 k:KAt B w x.a x.ks
 kl:x.ks.length≤maxLen
 kc:x.ks.length≤x.c
 kn:x.a=none→x.c=0
def NAt (B:Nat) (w:World) (a:Option Addr) (L:List Nd) : Prop:=∀ (i:Nat) (x:Nd),L[i]? = some x→∃ b o,a=some ⟨b,o,none⟩∧b<B∧NCell B w b (o+i*4) x
theorem KAt.fr {B:Nat} {S:List Nat} {w w' : World} {a:Option Addr} {ks:List Int} (h:KAt B w a ks) (f:Fr S w w') (hS:∀ k,k∈S→B≤k) : KAt B w' a ks:=fun j k hk=>by
 obtain⟨b,o,e,hb,hc⟩:=h j k hk
 exact⟨b,o,e,hb,f.cell1 hc (fun hm=>by have:=hS _ hm;simp at this;omega)⟩
theorem NCell.fr {B:Nat} {S:List Nat} {w w' : World} {b o:Nat} {x:Nd} (h:NCell B w b o x) (f:Fr S w w') (hb:b<B) (hS:∀ k,k∈S→B≤k) : NCell B w' b o x:=by
 have hn:b∉S:=fun hm=>by have:=hS _ hm;omega
 exact⟨f.cell1 h.c0 hn,f.cell1 h.c1 hn,f.cell1 h.c2 hn,f.cell1 h.c3 hn,h.k.fr f hS,h.kl,h.kc,h.kn⟩
theorem NAt.fr {B:Nat} {S:List Nat} {w w' : World} {a:Option Addr} {L:List Nd} (h:NAt B w a L) (f:Fr S w w') (hS:∀ k,k∈S→B≤k) : NAt B w' a L:=fun i x hx=>by
 obtain⟨b,o,e,hb,hc⟩:=h i x hx
 exact⟨b,o,e,hb,hc.fr f hb hS⟩
def kidD (D:List Nat) (n:Nat) : List Int→Nat→Nat
 | [],d=>d
 | k::r,d=>kidD D n r (if 0≤k∧k<n then max d (1+D.getD k.toNat 0) else d)
def depths (L:List Nd) : Nat→List Nat
 | 0=>[]
 | n+1=>depths L n++[match L[n]? with | some x=>kidD (depths L n) n x.ks 1 | none=>0]
def deepL (L:List Nd) : Nat:=(depths L L.length).getD (L.length-1) 0
theorem depths_length (L:List Nd) : ∀ n,(depths L n).length=n
 | 0=>rfl
 | n+1=>by simp[depths,depths_length L n]
theorem kidD_le {D:List Nat} {n m:Nat} (hD:∀ d∈D,d≤m) : ∀ (ks:List Int) (d:Nat),d≤m+1→kidD D n ks d≤m+1
 | [],d,h=>h
 | k::r,d,h=>by
   refine kidD_le hD r _ ?_
   split
   ·have:D.getD k.toNat 0≤m:=by
     rw[List.getD_eq_getElem?_getD]
     cases hq:D[k.toNat]? with
     | none=>simp
     | some q=>simpa using hD q (List.mem_of_getElem? hq)
    omega
   ·exact h
theorem depths_le (L:List Nd) : ∀ n,∀ d∈depths L n,d≤n
 | 0,d,h=>by simp[depths] at h
 | n+1,d,h=>by
   simp only[depths,List.mem_append,List.mem_singleton] at h
   rcases h with h | h
   ·have:=depths_le L n d h;omega
   ·rw[h]
    split
    ·exact kidD_le (depths_le L n) _ _ (by omega)
    ·omega
theorem getD_le {l:List Nat} {m:Nat} (h:∀ d∈l,d≤m) (i:Nat) : l.getD i 0≤m:=by
 rw[List.getD_eq_getElem?_getD]
 cases hq:l[i]? with
 | none=>simp
 | some q=>simpa using h q (List.mem_of_getElem? hq)
theorem deepL_le (L:List Nd) : deepL L≤L.length:=getD_le (depths_le L L.length) _
def IB (w:World) (g:Nat) (D:List Int) : Prop:=w.heap[g]? = some (.cells (D.map (Value.int .i64)).toArray 3 (0,0))
theorem IB.fr {w w' : World} {g:Nat} {D:List Int} {S:List Nat} (h:IB w g D) (f:Fr S w w') (hg:g∉S) : IB w' g D :=
 (f.block g (Array.getElem?_eq_some_iff.1 h).1 hg).trans h
theorem IB.fz {w:World} {g:Nat} {D:List Int} (h:IB w g D) (i:Nat) : w.frozen? ⟨g,i,none⟩=false:=by unfold IB at h;simp[World.frozen?,h]
theorem IB.cell {w:World} {g:Nat} {D:List Int} (h:IB w g D) {i:Nat} {v:Int} (hi:D[i]? = some v) : w.cell? ⟨g,i,none⟩=some (.int .i64 v):=by
 unfold IB at h
 simp[World.cell?,h,hi]
theorem IB.set {w:World} {g:Nat} {D:List Int} (h:IB w g D) (i:Nat) (v:Int) : IB (w.setCell ⟨g,i,none⟩ (.int .i64 v)) g (D.set i v):=by
 unfold IB
 rw[heap_setCell_same _ _ _ _ _ _ h]
 congr 2
 simp[List.map_set]
theorem made_one (z:Value) (n:Nat) : madeCells #[z] n=(List.replicate n z).toArray:=by
 apply Array.ext'
 rw[toList_madeCells_one]
theorem make_ints (w:World) (n:Nat) (h:n≤35184372088832) : (Instr.makeSlice 26 (.int .i64 n) (.int .i64 n)).run Tryz.prog w = .ok (.slice (some ⟨w.heap.size,0,none⟩) n n) (w.alloc (.cells ((List.replicate n (0:Int)).map (Value.int .i64)).toArray 3)):=by
 obtain⟨i,hi,hz,hs,hb⟩:=info_parts info3
 have:=run_make (P:=Tryz.prog) w 26 3 i (.int .i64 0) Tryz.underlying26 hi hz .i64 .i64 n n (by omega) (Int.le_refl _) (by rw[hb];omega) (by omega)
 rw[this,hs]
 simp[Value.cells,made_one]
def rowD (L:List Nd) (len i:Nat) (d:Int) : List Int:=(depths L i).map (fun (n:Nat)=>(n:Int))++d::List.replicate (len-i-1) 0
theorem rowD_at {L:List Nd} {len i:Nat} {d:Int} : (rowD L len i d)[i]? = some d:=by
 unfold rowD
 rw[List.getElem?_append_right (by simp[depths_length])]
 simp[depths_length]
theorem rowD_low {L:List Nd} {len i k:Nat} {d:Int} (h:k<i) : (rowD L len i d)[k]? = some (((depths L i).getD k 0:Nat) : Int):=by
 unfold rowD
 rw[List.getElem?_append_left (by simp[depths_length];exact h)]
 simp[List.getD_eq_getElem?_getD,depths_length,h]
theorem rowD_set {L:List Nd} {len i:Nat} {d d' : Int} : (rowD L len i d).set i d' = rowD L len i d' := by
 unfold rowD
 rw[List.set_append_right _ _ (by simp[depths_length])]
 simp[depths_length]
theorem rowD_next {L:List Nd} {len i:Nat} {x:Nd} (hx:L[i]? = some x) (hl:i+1<len) : rowD L len i ((kidD (depths L i) i x.ks 1:Nat) : Int)=rowD L len (i+1) 0:=by
 unfold rowD
 rw[depths,hx]
 simp only[List.map_append,List.map_cons,List.map_nil,List.append_assoc,List.singleton_append]
 rw[show len-i-1=(len-(i+1)-1)+1 by omega,List.replicate_succ]
theorem rowD_zero {L:List Nd} {len:Nat} (h:0<len) : List.replicate len (0:Int)=rowD L len 0 0:=by
 unfold rowD
 simp only[depths,List.map_nil,List.nil_append]
 rw[show len=(len-0-1)+1 by omega,List.replicate_succ]
 simp
theorem rowD_end {L:List Nd} {len:Nat} {x:Nd} (hl:L.length=len) (hx:L[len-1]? = some x) (h:0<len) : kidD (depths L (len-1)) (len-1) x.ks 1=deepL L:=by
 unfold deepL
 rw[hl]
 conv=>rhs;rw[show len=len-1+1 by omega]
 rw[depths,hx]
 simp[List.getD_eq_getElem?_getD,depths_length]
set_option maxHeartbeats 2000000 in
theorem deep_any (B:Nat) (L:List Nd) (w:World) (a:Option Addr) (len cap:Nat) (hlen:L.length=len) (hL:NAt B w a L) (hm:len≤2600000000000) (hB:B≤w.heap.size) :
 Calls Tryz.prog 43 #[.slice a len cap] w fun e w'=>e = .returned (.int .i64 (deepL L))∧Fr [] w w' := by
 have HL:Hid (L.length=len):=hlen
 have HB:Hid (B≤w.heap.size):=hB
 clear hB
 by_cases h0:len=0
 ·have:L = []:=by rw[← List.length_eq_zero_iff,hlen,h0]
  subst this h0
  go_enter Tryz.func43,Tryz.ntmps43
  go_wp2
  go_ret
  exact⟨rfl,Fr.refl _ _⟩
 ·clear hlen
  have hmk:=make_ints w len (by omega)
  have I0:IB (w.alloc (.cells ((List.replicate len (0:Int)).map (Value.int .i64)).toArray 3)) w.heap.size (rowD L len 0 0):=by rw[← rowD_zero (by omega)];exact heap_alloc_new w _
  have f0:Fr [] w (w.alloc (.cells ((List.replicate len (0:Int)).map (Value.int .i64)).toArray 3)):=(Fr.refl _ _).alloc _
  generalize w.alloc (.cells ((List.replicate len (0:Int)).map (Value.int .i64)).toArray 3)=w0 at *
  have hpos:0<len:=by omega
  have h0' : ((len:Int) == 0)=false:=beq_int_false (by omega)
  clear h0
  go_enter Tryz.func43,Tryz.ntmps43
  go_wp2
  go_loopw [15] (fun i wr=>∃ p:Nat,p≤len∧i = .int .i64 p∧Fr [] w wr∧(p<len→IB wr w.heap.size (rowD L len p 0))∧(p=len→IB wr w.heap.size (rowD L len (len-1) (deepL L:Nat)))) (fun i _=>len-(intOf i).toNat)
  case atStart=>exact⟨0,Nat.zero_le _,rfl,f0,fun _=>I0,fun h=>by omega⟩
  case round =>
   obtain⟨p,hp,rfl,fw,hI,hJ⟩:=hrel
   clear I0 hmk
   by_cases hlt:p<len
   ·have hI:=hI hlt
    clear hJ
    have hx:L[p]? = some (L[p]'(by rw[HL.out];exact hlt)):=List.getElem?_eq_getElem _
    generalize L[p]'(by rw[HL.out];exact hlt)=x at hx
    have HX:Hid (∀ m:Nat,p+1<len→kidD (depths L p) p x.ks 1=m→rowD L len p (m:Nat)=rowD L len (p+1) 0):=fun m h e=>by rw[← e];exact rowD_next hx h
    have HY:Hid (∀ m:Nat,p+1=len→kidD (depths L p) p x.ks 1=m→rowD L len p (m:Nat)=rowD L len (len-1) (deepL L:Nat)):=fun m h e=>by
     have hp1:p=len-1:=by omega
     subst hp1
     rw[← e,rowD_end HL.out hx (by omega)]
    obtain⟨b,o,rfl,hb,hN⟩:=(hL.fr fw (by simp)) p x hx
    obtain⟨kind,text,xa,xc,ks,pl⟩:=x
    simp only at HX HY
    have hc0:=hI.cell rowD_at
    have hfz:=hI.fz p
    have hI1:=hI.set p 1
    rw[rowD_set] at hI1
    have fw1:=fw.setCell (p:=⟨w.heap.size,p,none⟩) (.inr (Nat.le_refl _)) (.int .i64 1)
    have hbw:b≠w.heap.size:=by have:=HB.out;omega
    have f1:Fr [w.heap.size] wr (wr.setCell ⟨w.heap.size,p,none⟩ (.int .i64 1)):=(Fr.refl _ _).setCell (p:=⟨w.heap.size,p,none⟩) (.inl (by simp)) _
    have hN1:=hN.fr f1 hb (by simpa using HB.out)
    have n2:_=some (Value.slice xa ks.length xc):=hN1.c2
    have hkl:ks.length≤maxLen:=hN1.kl
    have hkk:KAt B _ xa ks:=hN1.k
    unfold maxLen at hkl
    clear hI hN f1 hN1 hx
    have hb1:∀ d∈depths L p,d≤p:=depths_le L p
    have HD:∀ r:Nat,Hid ((depths L p).getD r 0≤p):=fun r=>getD_le hb1 r
    clear hb1
    go_wp2
    generalize wr.setCell ⟨w.heap.size,p,none⟩ (.int .i64 1)=w1 at *
    go_loopw [27] (fun j wq=>∃ q d:Nat,q≤ks.length∧j = .int .i64 q∧Fr [w.heap.size] w1 wq∧Fr [] w wq∧IB wq w.heap.size (rowD L len p (d:Nat))∧d≤p+1∧Hid (kidD (depths L p) p (ks.drop q) d=kidD (depths L p) p ks 1)) (fun j _=>ks.length-(intOf j).toNat)
    case atStart=>exact⟨0,1,Nat.zero_le _,rfl,Fr.refl _ _,fw1,hI1,by omega,rfl⟩
    case round =>
     obtain⟨q,d,hq,rfl,fq,fqw,hIq,hd,he⟩:=hrel
     clear hI1 hc0 hfz n2
     by_cases hql:q<ks.length
     ·have hk:ks[q]? = some ks[q]:=List.getElem?_eq_getElem hql
      have hdr:=List.drop_eq_getElem_cons hql
      generalize ks[q]=k at hk hdr
      obtain⟨kb,ko,rfl,hkb,hcell⟩:=(hkk.fr fq (by simpa using HB.out)) q k hk
      have HE:Hid (kidD (depths L p) p (ks.drop (q+1)) (if 0≤k∧k<(p:Int) then max d (1+(depths L p).getD k.toNat 0) else d)=kidD (depths L p) p ks 1):=by unfold Hid;rw[← he.out,hdr];rfl
      clear hk hdr he
      by_cases h1:k<0
      ·rw[if_neg (by omega)] at HE
       have HE2:Hid _:=HE.out
       clear HE
       go_wp2
       go_roundw
       case rel=>exact⟨q+1,d,hql,by go_num,fq,fqw,hIq,hd,HE2⟩
       case measure=>simp[intOf];omega
      ·by_cases h2:(p:Int)≤k
       ·rw[if_neg (by omega)] at HE
        have HE2:Hid _:=HE.out
        clear HE
        go_wp2
        go_roundw
        case rel=>exact⟨q+1,d,hql,by go_num,fq,fqw,hIq,hd,HE2⟩
        case measure=>simp[intOf];omega
       ·obtain⟨r,rfl⟩:=Int.eq_ofNat_of_zero_le (show 0≤k by omega)
        have hr:r<p:=by omega
        rw[if_pos (by omega)] at HE
        simp only[Int.toNat_natCast] at HE
        have HE2:Hid _:=HE.out
        clear HE
        have c1:=hIq.cell rowD_at
        have c2:=hIq.cell (rowD_low hr)
        have z1:=hIq.fz p
        have hS:=hIq.set p ((max d (1+(depths L p).getD r 0) : Nat) : Int)
        rw[rowD_set] at hS
        have hD:=(HD r).out
        generalize (depths L p).getD r 0=D at *
        go_wp2
        go_region
        have ev:max (d:Int) (1+(D:Int))=((max d (1+D) : Nat) : Int):=by omega
        rw[ev]
        have hmx:max d (1+D)≤p+1:=by omega
        have gq:=(fq.setCell (p:=⟨w.heap.size,p,none⟩) (.inl (by simp)) (.int .i64 ((max d (1+D) : Nat) : Int))).drew
        have gw:=(fqw.setCell (p:=⟨w.heap.size,p,none⟩) (.inr (Nat.le_refl _)) (.int .i64 ((max d (1+D) : Nat) : Int))).drew
        have hS' := hS.fr ((Fr.refl [] _).drew) (by simp)
        clear hS c1 c2 z1
        go_wp2
        go_roundw
        case rel=>exact⟨q+1,_,hql,by go_num,gq,gw,hS',hmx,HE2⟩
        case measure=>simp[intOf];omega
     ·have HE:Hid (d=kidD (depths L p) p ks 1):=by unfold Hid;rw[← he.out,List.drop_of_length_le (by omega)];rfl
      go_wp2
      go_roundw
      case rel =>
       refine⟨p+1,hlt,by go_num,fqw,fun h=>?_,fun h=>?_⟩
       ·rw[← HX.out d h HE.out.symm];exact hIq
       ·rw[← HY.out d h HE.out.symm];exact hIq
      case measure=>simp[intOf];omega
   ·have hpe:p=len:=by omega
    have hI:=hJ hpe
    have hx:L[len-1]? = some (L[len-1]'(by rw[HL.out];omega)):=List.getElem?_eq_getElem _
    have hc:=hI.cell rowD_at
    go_wp2
    go_ret
    exact⟨rfl,fw⟩
theorem valL_le {base:Nat} (hb:0<base) (hb2:base≤16) : ∀ (l:List UInt8) (n m:Nat),n≤9223372036854775807→valL base l n=some m→m≤9223372036854775807
 | [],n,m,hn,h=>by simp[valL] at h;omega
 | c::l,n,m,hn,h=>by
   simp only[valL] at h
   split at h
   ·cases h
   ·rename_i hc
    refine valL_le hb hb2 l _ m ?_ h
    have h1:n≤(9223372036854775807-fig c.toNat) / base:=by omega
    have h2:=(Nat.le_div_iff_mul_le hb).1 h1
    omega
theorem numL_le {l:List UInt8} {n:Nat} (h:numL l=some n) : n≤9223372036854775807:=by
 unfold numL at h
 split at h
 ·split at h
  ·cases h
   have:=(l.getD 1 0).toNat_lt
   omega
  ·cases h
 ·split at h
  ·unfold valueL at h
   split at h
   ·cases h
   ·exact valL_le (by omega) (by omega) _ _ _ (by omega) h
  ·unfold valueL at h
   split at h
   ·cases h
   ·exact valL_le (by omega) (by omega) _ _ _ (by omega) h
theorem take_ne {l:List UInt8} {n:Nat} (hl:l≠[]) (hn:0<n) : l.take n≠[]:=by
 cases l with
 | nil=>exact absurd rfl hl
 | cons c r=>cases n with
   | zero=>omega
   | succ n=>simp
theorem readL_good {p:Nat} {l:List UInt8} {t:Tok} (hl:l≠[]) (h:readL p l = .ok t) : nxT t≠[]∧t.n≤9223372036854775807:=by
 have ht:=(readL_to hl h).1
 unfold readL at h
 split at h
 ·cases h
  simp only at ht
  have hp:=take_ne hl (n:=runL l) (by omega)
  refine⟨?_,by simp⟩
  unfold nxT
  simp only
  split <;> simp[hp]
 ·split at h
  ·split at h
   ·cases h
   ·rename_i hn
    cases h
    exact⟨by simp[nxT],numL_le hn⟩
  ·split at h
   ·split at h
    ·cases h
    ·rename_i hn
     cases h
     exact⟨by simp[nxT],numL_le hn⟩
   ·split at h
    ·cases h
    ·cases h
     simp only at ht
     have hp:=take_ne hl (n:=signL l) (by omega)
     exact⟨by simp[nxT,hp],by simp⟩
theorem scanL_good:∀ (f p:Nat) (l:List UInt8),(∀ t∈(scanL f p l).1,nxT t≠[]∧t.n≤9223372036854775807)∧(scanL f p l).1.length≤l.length
 | 0,p,l=>by simp[scanL]
 | f+1,p,l=>by
   simp only[scanL]
   split
   ·simp
   ·rename_i hs
    have hs2:=skipL_le false l
    have hne:l.drop (skipL false l)≠[]:=fun e=>by
     have:=congrArg List.length e
     simp at this
     omega
    split
    ·simp
    ·rename_i t ht
     have h1:=readL_good hne ht
     have h2:=readL_to hne ht
     have h3:=scanL_good f t.to (l.drop (t.to-p))
     refine⟨fun u hu=>?_,?_⟩
     ·rcases List.mem_cons.1 hu with rfl | hu
      ·exact h1
      ·exact h3.1 u hu
     ·have:=h3.2
      simp only[List.length_cons,List.length_drop] at this ⊢
      omega
theorem toks_of {s:ByteArray} {ts:List Tok} (h:(sc s 0).1=ts) : Toks (ts++[⟨0,[],s.size,s.size,0⟩])∧ts.length≤s.size:=by
 have g:=scanL_good (s.size+1) 0 (s.data.toList.drop 0)
 have e:(scanL (s.size+1) 0 (s.data.toList.drop 0)).1=ts:=h
 rw[e] at g
 have hl:(s.data.toList.drop 0).length=s.size:=by rw[List.length_drop,← Lib.size_eq,Nat.sub_zero]
 refine⟨⟨by simp,fun i hi=>?_,fun i=>?_⟩,by rw[← hl];exact g.2⟩
 ·simp only[List.length_append,List.length_cons,List.length_nil] at hi ⊢
  unfold nx tk
  rw[List.getD_eq_getElem?_getD]
  by_cases hlt:i<ts.length
  ·rw[List.getElem?_append_left hlt,List.getElem?_eq_getElem hlt]
   exact⟨fun e=>absurd e (g.1 _ (List.getElem_mem hlt)).1,fun e=>by omega⟩
  ·have:i=ts.length:=by omega
   subst this
   simp[nxT]
 ·unfold tk
  rw[List.getD_eq_getElem?_getD]
  by_cases hlt:i<ts.length
  ·rw[List.getElem?_append_left hlt,List.getElem?_eq_getElem hlt]
   exact (g.1 _ (List.getElem_mem hlt)).2
  ·by_cases hi:i=ts.length
   ·subst hi;simp
   ·rw[List.getElem?_eq_none (by simp;omega)];simp
theorem readL_err {p:Nat} {l:List UInt8} {e:Nat} (h:readL p l = .error e) : e=40∨e=41:=by
 unfold readL at h
 split at h
 ·cases h
 ·split at h
  ·split at h
   ·cases h;exact .inr rfl
   ·cases h
  ·split at h
   ·split at h
    ·cases h;exact .inr rfl
    ·cases h
   ·split at h
    ·cases h;exact .inl rfl
    ·cases h
theorem scanL_err:∀ (f p:Nat) (l:List UInt8) (x:Nat×Nat),(scanL f p l).2=some x→x.2=40∨x.2=41
 | 0,p,l,x,h=>by simp[scanL] at h
 | f+1,p,l,x,h=>by
   simp only[scanL] at h
   split at h
   ·cases h
   ·split at h
    ·rename_i e he
     cases h
     exact readL_err he
    ·exact scanL_err f _ _ x h
def fullP (ts:List Tok) : Except Nat (List Nat×Nat×List PN):=match P ts (40*ts.length+29) .prog 0 [] with | some r=>r | none=>.error 0
theorem fullP_eq {ts:List Tok} (h:Toks ts) : P ts (40*ts.length+29) .prog 0 []=some (fullP ts):=by
 obtain⟨x,hx⟩:=(good h (40*ts.length+29) .prog 0 [] h.pos trivial).1 (by simp[rank])
 unfold fullP
 rw[hx]
def ndX (x:PN) : Nd:=⟨x.kind,⟨x.text.toArray⟩,none,0,x.kids.map (fun (n:Nat)=>(n:Int)),x.pl⟩
def ndM (m:MN) : Nd:=⟨m.x.kind,⟨m.x.text.toArray⟩,m.a,m.c,m.x.kids.map (fun (n:Nat)=>(n:Int)),m.x.pl⟩
def deepP (ms:List PN) : Nat:=deepL (ms.map ndX)
def withEnd (s:ByteArray) (ts:List Tok) : List Tok:=ts++[⟨0,[],s.size,s.size,0⟩]
def prgL (s:ByteArray) : Except (Nat×Nat) (List PN) :=
 match sc s 0 with
 | (_,some (p,c))=>.error (p,c)
 | (ts,none) =>
   match tooO (withEnd s ts) 0 with
   | some p=>.error (p,51)
   | none =>
     match fullP (withEnd s ts) with
     | .error k=>.error ((tk (withEnd s ts) k).frm,60)
     | .ok (_,_,ms)=>if 50000<ms.length then .error (0,2) else if 200<deepP ms then .error (0,51) else .ok ms
theorem depths_congr {L M:List Nd} (h:L.map Nd.ks=M.map Nd.ks) : ∀ n,depths L n=depths M n
 | 0=>rfl
 | n+1=>by
   have e:(L[n]?).map Nd.ks=(M[n]?).map Nd.ks:=by rw[← List.getElem?_map,h,List.getElem?_map]
   simp only[depths,depths_congr h n]
   cases hL:L[n]? with
   | none =>
     rw[hL] at e
     cases hM:M[n]? with
     | none=>rfl
     | some y=>rw[hM] at e;simp at e
   | some x =>
     rw[hL] at e
     cases hM:M[n]? with
     | none=>rw[hM] at e;simp at e
     | some y=>rw[hM] at e;simp at e;simp[e]
theorem deepL_nd {L:List MN} {ms:List PN} (h:L.map MN.x=ms) : deepL (L.map ndM)=deepP ms:=by
 subst h
 have e:(L.map ndM).map Nd.ks=((L.map MN.x).map ndX).map Nd.ks:=by simp[ndM,ndX,Function.comp_def]
 unfold deepP deepL
 rw[depths_congr e]
 simp
def PrgOut (s:ByteArray) (w w' : World) (e:Ending) : Prop :=
 match prgL s with
 | .error (p,c)=>e = .returned (.tuple #[.slice none 0 0,.int .i64 (p:Nat),.int .i64 (c:Nat)])
 | .ok ms=>∃ (nv:Value) (L:List MN) (F' : List Nat),e = .returned (.tuple #[nv,.int .i64 0,.int .i64 0])∧L.map MN.x=ms∧w'.ownsRow w.heap.size 55 4 nv L.length (flatM L)∧(∀ k,nv.ownBlock=some k→k∈F')∧(∀ m∈L,KRow w' F' m)∧∀ j∈F',w.heap.size≤j∧j<w'.heap.size
theorem nodes_at {w:World} {B:Nat} {L:List MN} {a:Option Addr} {c:Nat} {F:List Nat} (ho:w.ownsRow B 55 4 (.slice a L.length c) L.length (flatM L)) (hk:∀ m∈L,KRow w F m) (hF:∀ j∈F,j<w.heap.size) : NAt w.heap.size w a (L.map ndM):=by
 intro i x hx
 rw[List.getElem?_map] at hx
 obtain⟨m,hm,rfl⟩:=Option.map_eq_some_iff.1 hx
 have hmem:=List.mem_of_getElem? hm
 obtain⟨k1,k2,k3⟩:=hk m hmem
 rcases ho.2 with ⟨e1,e2⟩ | ⟨g,cap,cur,e1,-⟩
 ·rw[List.length_eq_zero_iff] at e2
  subst e2
  simp at hm
 ·cases e1
  have hb:=(ho.lt g rfl)
  have hc:∀ j,j<4→∀ u,m.cells[j]? = some u→w.cell? ⟨g,i*4+j,none⟩=some u:=fun j hj u hu=>by
   have:=ho.cells (g:=g) rfl (i*4+j) u (by rw[flatM_get hm j hj];exact hu)
   rw[Addr.add_lit,Nat.zero_add] at this
   exact this
  refine⟨g,0,rfl,hb.2,?_,?_,?_,?_,?_,?_,?_,?_⟩
  ·simpa [ndM] using hc 0 (by omega) _ rfl
  ·simpa [ndM] using hc 1 (by omega) _ rfl
  ·simpa [ndM] using hc 2 (by omega) _ rfl
  ·simpa [ndM] using hc 3 (by omega) _ rfl
  ·intro j k hj
   simp only[ndM,List.getElem?_map] at hj
   obtain⟨n,hn,rfl⟩:=Option.map_eq_some_iff.1 hj
   obtain⟨b,o,cc,z,q1,q2,q3,q4⟩:=k3 j n hn
   exact⟨b,o,q1,hF b q2,at_cells q3 _ q4⟩
  ·simpa [ndM] using Nat.le_trans k1.1 k1.2
  ·simpa [ndM] using k1.1
  ·exact k2
theorem row_of {w:World} {B n:Nat} {v:Value} {ts:List Tok} (h:w.ownsRow B 82 5 v n (flatT ts)) (hn:0<n) : ∃ g c,v = .slice (some ⟨g,0,none⟩) n c∧B≤g∧n≤c∧TRow w g ts:=by
 rcases h.2 with ⟨e1,e2⟩ | ⟨g,cap,cur,e1,hb,hg,hc,hm,hs,ht⟩
 ·omega
 ·refine⟨g,cap,e1,hb,hc,cur,(0,0),hg,fun j u hu=>?_⟩
  rw[← ht] at hu
  have hlt:=(List.getElem?_eq_some_iff.1 hu).1
  rw[List.length_take] at hlt
  rw[List.getElem?_take_of_lt (by omega)] at hu
  simpa using hu
def afterL (us:List Tok) : Except (Nat×Nat) (List PN) :=
 match tooO us 0 with
 | some p=>.error (p,51)
 | none =>
   match fullP us with
   | .error k=>.error ((tk us k).frm,60)
   | .ok (_,_,ms)=>if 50000<ms.length then .error (0,2) else if 200<deepP ms then .error (0,51) else .ok ms
theorem prgL_after {s:ByteArray} {ts us:List Tok} (hsc:sc s 0=(ts,none)) (hus:withEnd s ts=us) : prgL s=afterL us:=by
 unfold prgL
 rw[hsc]
 simp only
 rw[hus]
 rfl
theorem PrgOut.err {s:ByteArray} {w w' : World} {p c:Nat} (h:prgL s = .error (p,c)) : PrgOut s w w' (.returned (.tuple #[.slice none 0 0,.int .i64 (p:Nat),.int .i64 (c:Nat)])):=by unfold PrgOut;rw[h]
theorem PrgOut.ok {s:ByteArray} {w w' : World} {ms:List PN} {e:Ending} (h:prgL s = .ok ms) (k:∃ (nv:Value) (L:List MN) (F' : List Nat),e = .returned (.tuple #[nv,.int .i64 0,.int .i64 0])∧L.map MN.x=ms∧w'.ownsRow w.heap.size 55 4 nv L.length (flatM L)∧(∀ k,nv.ownBlock=some k→k∈F')∧(∀ m∈L,KRow w' F' m)∧∀ j∈F',w.heap.size≤j∧j<w'.heap.size) : PrgOut s w w' e:=by unfold PrgOut;rw[h];exact k
set_option maxHeartbeats 1000000 in
theorem prog_any (s:ByteArray) (w:World) (hs:s.size≤200000) (T:Tabs w) :
 Calls Tryz.prog 20 #[.string s] w fun e w'=>PrgOut s w w' e∧Fr [] w w' := by
 have CS:=scan_any s w hs T
 have h7:7≤w.heap.size:=T.len
 unfold scOut at CS
 rcases hsc:sc s 0 with ⟨ts,_ | ⟨p,c⟩⟩
 ·rw[hsc] at CS
  have HT:Hid (Toks (withEnd s ts)∧ts.length≤s.size):=toks_of (by rw[hsc])
  have Hlen:Hid ((withEnd s ts).length=ts.length+1):=by unfold Hid;simp[withEnd]
  replace CS:Calls Tryz.prog 40 #[.string s] w fun e w'=>(∃ v,e = .returned (.tuple #[v,.int .i64 0,.int .i64 0])∧w'.ownsRow w.heap.size 82 5 v (ts.length+1) (flatT (withEnd s ts)))∧Fr [] w w' := CS
  have HP:Hid (prgL s=afterL (withEnd s ts)):=prgL_after hsc rfl
  clear hsc
  generalize withEnd s ts=us at *
  have Hul:Hid (us.length≤200001):=by unfold Hid;have:=HT.out.2;have:=Hlen.out;omega
  clear hs h7
  go_enter Tryz.func20,Tryz.ntmps20
  go_wp2_with (go_at_call 40;refine CS.mono ?_)
  rintro e w1 ⟨⟨v,rfl,hrow⟩,f1⟩
  rw[← Hlen.out] at hrow
  have hul:=Hul.out
  have h7:7≤w.heap.size:=T.len
  obtain⟨g,tc,rfl,hg,htc,hR⟩:=row_of hrow (by have:=Hlen.out;omega)
  have T1:=T.fr f1 (by simp)
  have CT:=too_any (tc:=tc) hR hul htc
  clear CS hrow
  cases hto:tooO us 0 with
  | some p =>
    have HQ:Hid (prgL s = .error (p,51)):=HP.out.trans (by unfold afterL;rw[hto])
    rw[hto] at CT
    simp only[TooV] at CT
    go_wp2_with (go_at_call 41;refine CT.mono ?_)
    rintro e w2 ⟨rfl,f2⟩
    go_wp2
    exact bodyPost_ret (results_tmp3 rfl _ _ _) rfl ⟨PrgOut.err HQ.out,f1.trans f2⟩
  | none =>
    have HP2:Hid (prgL s=match fullP us with | .error k=>.error ((tk us k).frm,60) | .ok (_,_,ms)=>if 50000<ms.length then .error (0,2) else if 200<deepP ms then .error (0,51) else .ok ms):=HP.out.trans (by unfold afterL;rw[hto])
    rw[hto] at CT
    simp only[TooV] at CT
    go_wp2_with (go_at_call 41;refine CT.mono ?_)
    rintro e w2 ⟨rfl,f2⟩
    have hR2:=hR.fr f2 (by simp)
    have T2:=T1.fr f2 (by simp)
    have hgl:g<w2.heap.size:=by obtain⟨c,z,h1,-⟩:=hR2;exact (Array.getElem?_eq_some_iff.1 h1).1
    have CR:=parsed_any (B:=w.heap.size) (tc:=tc) HT.out.1 T2 hR2 hg h7 (Nat.le_trans f1.size f2.size) hul htc (fullP_eq HT.out.1)
    have HG:Hid (∀ v j ms,fullP us = .ok (v,j,ms)→j<us.length∧ms.length≤2*j+1):=by
     intro v j ms h
     have e:=run_ok HT.out.1 (nt:=.prog) (i:=0) (ns:=[]) (g:=40*us.length+29) HT.out.1.pos trivial ((fullP_eq HT.out.1).trans (congrArg some h))
     have e1:=e.2.1
     have e2:=e.2.2.2.1
     simp only[slack,List.length_nil] at e2
     omega
    clear CT hto HP hR hR2
    rcases hr:fullP us with k | ⟨v,j,ms⟩
    ·have HQ:Hid (prgL s = .error ((tk us k).frm,60)):=HP2.out.trans (by rw[hr])
     rw[hr] at CR
     clear HP2 HG hr
     go_wp2_with (go_at_call 42;refine CR.mono ?_)
     rintro e w3 ⟨rfl,f3⟩
     have f03:Fr [] w w3:=(((f1.trans f2).sub (T:=[g]) (by simp)).trans f3).sub (fun k hk=>by simp at hk;subst hk;exact .inr hg)
     go_wp2
     exact bodyPost_ret (results_tmp3 rfl _ _ _) rfl ⟨PrgOut.err HQ.out,f03⟩
    ·have HQ:Hid (prgL s=if 50000<ms.length then .error (0,2) else if 200<deepP ms then .error (0,51) else .ok ms):=HP2.out.trans (by rw[hr])
     rw[hr] at CR
     have HM:Hid (j<us.length∧ms.length≤2*j+1):=HG.out v j ms hr
     clear HP2 HG hr
     go_wp2_with (go_at_call 42;refine CR.mono ?_)
     rintro e w3 ⟨nv,L,F',rfl,hL,hown,hob,hkr,hF,f3⟩
     have f03:Fr [] w w3:=(((f1.trans f2).sub (T:=[g]) (by simp)).trans f3).sub (fun k hk=>by simp at hk;subst hk;exact .inr hg)
     obtain⟨a,c,rfl,-⟩:=own_slice hown
     have hlL:L.length=ms.length:=by rw[← hL];simp
     have hms:=HM.out.2
     have hj:=HM.out.1
     have NA:=nodes_at hown hkr (fun j hj=>(hF j hj).2)
     have CD:=deep_any w3.heap.size (L.map ndM) w3 a L.length c (by simp) NA (by omega) (Nat.le_refl _)
     rw[deepL_nd hL] at CD
     have HLm:Hid (L.map MN.x=ms):=hL
     have HOw:Hid (w3.ownsRow w.heap.size 55 4 (.slice a L.length c) L.length (flatM L)):=hown
     have HLl:Hid (L.length=ms.length):=hlL
     have HJ:Hid (ms.length≤400003):=by unfold Hid;omega
     clear CR NA hL hown
     by_cases h5:50000<ms.length
     ·have h5' : (50000:Int)<(L.length:Int):=by omega
      clear hlL hms hj
      go_wp2
      exact bodyPost_ret (results_tmp3 rfl _ _ _) rfl ⟨PrgOut.err (HQ.out.trans (if_pos h5)),f03⟩
     ·have h5' : (L.length:Int)≤50000:=by omega
      clear hlL hms hj
      by_cases h6:200<deepP ms
      ·have h6' : (200:Int)<(deepP ms:Int):=by omega
       go_wp2_with (go_at_call 43;refine CD.mono ?_)
       rintro e w4 ⟨rfl,f4⟩
       go_wp2
       exact bodyPost_ret (results_tmp3 rfl _ _ _) rfl ⟨PrgOut.err (HQ.out.trans (by rw[if_neg h5,if_pos h6])),f03.trans f4⟩
      ·have h6' : (deepP ms:Int)≤200:=by omega
       go_wp2_with (go_at_call 43;refine CD.mono ?_)
       rintro e w4 ⟨rfl,f4⟩
       go_wp2
       exact bodyPost_ret (results_tmp3 rfl _ _ _) rfl ⟨PrgOut.ok (HQ.out.trans (by rw[if_neg h5,if_neg h6])) ⟨_,L,F',rfl,HLm.out,own_fr HOw.out f4 (by simp),hob,fun m hm=>(hkr m hm).fr f4 (by simp),fun j hj=>⟨(hF j hj).1,Nat.lt_of_lt_of_le (hF j hj).2 f4.size⟩⟩,f03.trans f4⟩
 ·rw[hsc] at CS
  have HQ:Hid (prgL s = .error (p,c)):=by unfold Hid prgL;rw[hsc]
  have hc:¬ (c:Int)=0:=by
   have h1:=scanL_err (s.size+1) 0 (s.data.toList.drop 0) (p,c) (show (sc s 0).2=_ by rw[hsc])
   simp only at h1
   omega
  replace CS:Calls Tryz.prog 40 #[.string s] w fun e w'=>e = .returned (.tuple #[.slice none 0 0,.int .i64 (p:Nat),.int .i64 (c:Nat)])∧Fr [] w w' := CS
  clear hsc
  go_enter Tryz.func20,Tryz.ntmps20
  go_wp2_with (go_at_call 40;refine CS.mono ?_)
  rintro e w1 ⟨rfl,f1⟩
  go_wp2
  exact bodyPost_ret (results_tmp3 rfl _ _ _) rfl ⟨PrgOut.err HQ.out,f1⟩
end Go.Proofs.YtnmfcaahdeddnaaGreatDoor
