/-
  Parts of the proof; conditions: as each says.
-/
import Derived.Test.YtnmfcaahdeddnaaGreatDoorMgDKMO
import Derived.Test.YtnmfcaahdeddnaaGreatDoorMgKFHK
import Derived.Test.YtnmfcaahdeddnaaGreatDoorMgPIKF
namespace Go.Proofs.YtnmfcaahdeddnaaGreatDoor
open Go.RowKit
set_option linter.unusedVariables false
set_option linter.unusedSimpArgs false
structure TokG (t:Tok) : Prop where
 k4:t.kind≤4
 sp:t.kind=2∨t.kind=3→t.text≠nmB∧t.text≠numB∧t.text≠[]
 wd:t.kind=2→lineL t.text=0
 br:t.kind≠3→∀ q,stepO t.text q=q
def headOK (l:List UInt8) : Bool:=match l with | []=>true | c::_=>!(c == 40 || c == 91 || c == 123 || c == 41 || c == 93 || c == 125)
theorem head_step {l:List UInt8} (h:headOK l=true) (q:Nat) : stepO l q=q:=by
 unfold stepO
 have n:∀ c:UInt8,(c=40∨c=91∨c=123∨c=41∨c=93∨c=125)→l≠[c]:=fun c hc e=>by
  subst e
  simp[headOK] at h
  rcases hc with rfl | rfl | rfl | rfl | rfl | rfl <;> simp at h
 rw[if_neg (by simp[n 40,n 91,n 123]),if_neg (by simp[n 41,n 93,n 125])]
theorem head_let {c:UInt8} {r:List UInt8} (h:isLet c.toNat=true) : headOK (c::r)=true:=by
 have k:∀ x:UInt8,c=x→c.toNat=x.toNat:=fun x e=>by rw[e]
 have h' : 97≤c.toNat∧c.toNat≤122∨65≤c.toNat∧c.toNat≤90∨c.toNat=95:=by simpa [isLet] using h
 simp only[headOK,Bool.not_eq_true',Bool.or_eq_false_iff,beq_eq_false_iff_ne]
 refine⟨⟨⟨⟨⟨?_,?_⟩,?_⟩,?_⟩,?_⟩,?_⟩ <;> (intro e;have:=k _ e;simp at this;omega)
theorem head_dig {c:UInt8} {r:List UInt8} (h:c.toNat=39∨(48≤c.toNat∧c.toNat≤57)) : headOK (c::r)=true:=by
 have k:∀ x:UInt8,c=x→c.toNat=x.toNat:=fun x e=>by rw[e]
 simp only[headOK,Bool.not_eq_true',Bool.or_eq_false_iff,beq_eq_false_iff_ne]
 refine⟨⟨⟨⟨⟨?_,?_⟩,?_⟩,?_⟩,?_⟩,?_⟩ <;> (intro e;have:=k _ e;simp at this;omega)
theorem head_take {l:List UInt8} {n:Nat} (h:headOK l=true) : headOK (l.take n)=true:=by
 cases l with
 | nil=>simpa using h
 | cons c r=>cases n with
   | zero=>rfl
   | succ n=>simpa [headOK] using h
theorem kind2 {n:Nat} (h:kindN n=2) : isLet n=true:=by
 unfold kindN at h
 split at h
 ·cases h
 ·split at h
  ·assumption
  ·split at h
   ·cases h
   ·split at h <;> cases h
theorem kind34 {n:Nat} (h:kindN n=3∨kindN n=4) : n=39∨(48≤n∧n≤57):=by
 unfold kindN at h
 split at h
 ·simp at h
 ·split at h
  ·simp at h
  ·split at h
   ·rename_i e
    right
    simpa [isDig] using e
   ·split at h
    ·left;assumption
    ·simp at h
theorem words_ok:∀ w∈words,w≠nmB∧w≠numB∧w≠[]∧lineL w=0:=by decide
theorem signs_ok:∀ w∈signs,w≠nmB∧w≠numB∧w≠[]:=by decide
theorem sign_take {l:List UInt8} (h:¬ signL l=0) : l.take (signL l)∈signs:=by
 unfold signL at h ⊢
 cases hf:signs.find? (fun g=>g.isPrefixOf l) with
 | none=>rw[hf] at h;simp at h
 | some g =>
   have hm:=List.mem_of_find?_eq_some hf
   have hp:=List.find?_some hf
   simp only at hp ⊢
   rw[List.prefix_iff_eq_take.1 (List.isPrefixOf_iff_prefix.1 hp)] at hm
   exact hm
theorem readL_tok {p:Nat} {l:List UInt8} {t:Tok} (hl:l≠[]) (h:readL p l = .ok t) : TokG t∧t.text.length≤l.length∧t.frm=p:=by
 obtain⟨c,r,rfl⟩ : ∃ c r,l=c::r:=by cases l with | nil=>exact absurd rfl hl | cons c r=>exact⟨c,r,rfl⟩
 have ht:=(readL_to hl h).1
 unfold readL at h
 simp only[List.getD_cons_zero] at h
 split at h
 ·rename_i hk
  cases h
  have hh:headOK (List.take (runL (c::r)) (c::r))=true:=head_take (head_let (kind2 hk))
  refine⟨⟨by simp only;split <;> omega,fun hs=>?_,fun hs=>?_,fun _ q=>head_step hh q⟩,by simp only[List.length_take];omega,rfl⟩
  ·simp only at hs
   split at hs
   ·rename_i hw
    have:=words_ok _ (List.contains_iff_mem.1 hw)
    exact⟨this.1,this.2.1,this.2.2.1⟩
   ·simp at hs
  ·simp only at hs
   split at hs
   ·rename_i hw
    exact (words_ok _ (List.contains_iff_mem.1 hw)).2.2.2
   ·simp at hs
 ·split at h
  ·rename_i hk
   split at h
   ·cases h
   ·cases h
    exact⟨⟨by simp,fun hs=>by simp at hs,fun hs=>by simp at hs,fun _ q=>head_step (head_take (head_dig (kind34 (.inl hk)))) q⟩,by simp only[List.length_take];omega,rfl⟩
  ·split at h
   ·rename_i hk
    split at h
    ·cases h
    ·cases h
     exact⟨⟨by simp,fun hs=>by simp at hs,fun hs=>by simp at hs,fun _ q=>head_step (head_take (head_dig (kind34 (.inr hk)))) q⟩,by simp only[List.length_take];omega,rfl⟩
   ·split at h
    ·cases h
    ·rename_i hz
     cases h
     exact⟨⟨by simp,fun _=>signs_ok _ (sign_take hz),fun hs=>by simp at hs,fun hs=>absurd rfl hs⟩,by simp only[List.length_take];omega,rfl⟩
theorem scanL_tok:∀ (f p:Nat) (l:List UInt8),∀ t∈(scanL f p l).1,TokG t∧t.text.length≤l.length∧t.frm≤p+l.length
 | 0,p,l=>by simp[scanL]
 | f+1,p,l=>by
   simp only[scanL]
   split
   ·simp
   ·rename_i hs
    have hs2:=skipL_le false l
    have hne:l.drop (skipL false l)≠[]:=fun e=>by
     have:=congrArg List.length e
     simp at this
     omega
    split
    ·simp
    ·rename_i t ht
     have h1:=readL_tok hne ht
     have h3:=scanL_tok f t.to (l.drop (t.to-p))
     intro u hu
     rcases List.mem_cons.1 hu with rfl | hu
     ·have:=h1.2
      rw[List.length_drop] at this
      exact⟨h1.1,by omega,by omega⟩
     ·have:=h3 u hu
      have ht2:=readL_to hne ht
      rw[List.length_drop] at this ht2
      exact⟨this.1,by omega,by omega⟩
theorem tokG_end (n:Nat) : TokG ⟨0,[],n,n,0⟩:=⟨by simp,fun h=>by simp at h,fun h=>by simp at h,fun _ q=>head_step rfl q⟩
theorem toks_good {s:ByteArray} {ts:List Tok} (h:(sc s 0).1=ts) : ∀ i,i<(ts++[(⟨0,[],s.size,s.size,0⟩ : Tok)]).length→TokG (tk (ts++[(⟨0,[],s.size,s.size,0⟩ : Tok)]) i)∧(tk (ts++[(⟨0,[],s.size,s.size,0⟩ : Tok)]) i).text.length≤s.size∧(tk (ts++[(⟨0,[],s.size,s.size,0⟩ : Tok)]) i).frm≤s.size:=by
 intro i hi
 have g:=scanL_tok (s.size+1) 0 (s.data.toList.drop 0)
 have e:(scanL (s.size+1) 0 (s.data.toList.drop 0)).1=ts:=h
 rw[e] at g
 have hl:(s.data.toList.drop 0).length=s.size:=by rw[List.length_drop,← Lib.size_eq,Nat.sub_zero]
 simp only[List.length_append,List.length_cons,List.length_nil] at hi
 unfold tk
 rw[List.getD_eq_getElem?_getD]
 by_cases hlt:i<ts.length
 ·rw[List.getElem?_append_left hlt,List.getElem?_eq_getElem hlt]
  have:=g _ (List.getElem_mem hlt)
  rw[hl,Nat.zero_add] at this
  exact this
 ·have:i=ts.length:=by omega
  subst this
  simp only[List.getElem?_concat_length,Option.getD_some]
  exact⟨tokG_end _,by simp,by simp⟩
theorem kt_of {s:ByteArray} {ts:List Tok} (h:(sc s 0).1=ts) : KT (ts++[(⟨0,[],s.size,s.size,0⟩ : Tok)]) :=
 ⟨fun i hi=>⟨(toks_good h i hi).1.k4,(toks_good h i hi).1.sp⟩,fun i hi=>(toks_good h i hi).1.wd⟩
theorem kb_of {s:ByteArray} {ts:List Tok} (h:(sc s 0).1=ts) : KB (ts++[(⟨0,[],s.size,s.size,0⟩ : Tok)]):=fun i hi=>(toks_good h i hi).1.br
end Go.Proofs.YtnmfcaahdeddnaaGreatDoor
