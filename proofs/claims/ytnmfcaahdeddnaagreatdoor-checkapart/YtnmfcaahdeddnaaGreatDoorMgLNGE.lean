/-
  Parts of the proof; conditions: as each says.
-/
import Derived.Test.YtnmfcaahdeddnaaGreatDoorMgCBIH
import Derived.Test.YtnmfcaahdeddnaaGreatDoorMgDKMO
import Derived.Test.YtnmfcaahdeddnaaGreatDoorMgEMHH
namespace Go.Proofs.YtnmfcaahdeddnaaGreatDoor
open Go.RowKit
set_option linter.unusedVariables false
set_option linter.unusedSimpArgs false
def Keep (Φ:PN→Prop) (ns:List PN) (r:R) : Prop:=∀ v j ms,r=some (.ok (v,j,ms))→(∀ x∈ns,Φ x)→∀ x∈ms,Φ x
section
variable {Φ:PN→Prop} {ts:List Tok}
theorem Keep.none {ns:List PN} : Keep Φ ns none:=fun _ _ _ h=>by cases h
theorem Keep.err {ns:List PN} {e:Nat} : Keep Φ ns (some (.error e)):=fun _ _ _ h=>by cases h
theorem Keep.ok {ns:List PN} {v:List Nat} {i:Nat} : Keep Φ ns (some (.ok (v,i,ns))):=fun _ _ _ h hn=>by cases h;exact hn
theorem Keep.bind {ns:List PN} {r:R} {k:List Nat→Nat→List PN→R} (h:Keep Φ ns r) (hk:∀ v j ms,Keep Φ ms (k v j ms)) : Keep Φ ns (bindR r k):=by
 intro v j ms e hn
 rcases bindR_some e with ⟨er,hr,he⟩ | ⟨v1,j1,n1,hr,hP⟩
 ·cases he
 ·exact hk v1 j1 n1 v j ms hP (h v1 j1 n1 hr hn)
theorem Keep.want {ns:List PN} {s:List UInt8} {i:Nat} {x:R} (h:Keep Φ ns x) : Keep Φ ns (wantR ts s i x):=by
 unfold wantR
 split
 ·exact h
 ·exact Keep.err
theorem Keep.lay {kind:Nat} {text:List UInt8} {pl:Nat} {ks:List Nat} {i:Nat} {ns:List PN} (h:Φ ⟨kind,text,ks,pl⟩) : Keep Φ ns (layR kind text pl ks i ns):=by
 intro v j ms e hn
 cases e
 intro x hx
 rcases List.mem_append.1 hx with hx | hx
 ·exact hn x hx
 ·simp at hx;subst hx;exact h
theorem Keep.lay' {kind:Nat} {text:List UInt8} {pl:Nat} {ks:List Nat} {i:Nat} {ns:List PN} (h:(∀ x∈ns,Φ x)→Φ ⟨kind,text,ks,pl⟩) : Keep Φ ns (layR kind text pl ks i ns):=by
 intro v j ms e hn
 cases e
 intro x hx
 rcases List.mem_append.1 hx with hx | hx
 ·exact hn x hx
 ·simp at hx;subst hx;exact h hn
end
def LenOK (M:Nat) (x:PN) : Prop:=x.text.length≤M∧x.pl≤M
def TLen (M:Nat) (t:Tok) : Prop:=t.text.length≤M∧t.frm≤M
def accT:NT→List Tok
 | .signedL acc=>acc
 | .blockL pl _=>[⟨0,[],pl,0,0⟩]
 | .laySigns acc _=>acc
 | _=>[]
theorem tk_len {ts:List Tok} {M:Nat} (h:∀ i,i<ts.length→TLen M (tk ts i)) (i:Nat) : TLen M (tk ts i):=by
 by_cases hi:i<ts.length
 ·exact h i hi
 ·unfold tk
  rw[List.getD_eq_getElem?_getD,List.getElem?_eq_none (by omega)]
  simp[TLen]
theorem laySg_len2 {M:Nat} : ∀ (acc:List Tok) (n:Nat) (ns:List PN),(∀ t∈acc,TLen M t)→(∀ x∈ns,LenOK M x)→∀ x∈(laySg acc n ns).2,LenOK M x
 | [],n,ns,_,h=>h
 | t::r,n,ns,ha,h=>by
   simp only[laySg]
   refine laySg_len2 r _ _ (fun u hu=>ha u (by simp[hu])) (fun x hx=>?_)
   rcases List.mem_append.1 hx with hx | hx
   ·exact h x hx
   ·simp at hx;subst hx;exact ha t (by simp)
theorem dec_len2:∀ (k n:Nat),n<10 ^ (k+1)→(Lib.decDigits n).length≤k+1
 | 0,n,h=>by rw[Lib.decDigits_one (by simpa using h)];simp
 | k+1,n,h=>by
   by_cases h10:n<10
   ·rw[Lib.decDigits_one h10];simp
   ·rw[Lib.decDigits,dif_neg h10,List.length_append]
    have:=dec_len2 k (n / 10) (by
     rw[Nat.pow_succ] at h
     exact Nat.div_lt_of_lt_mul (by rw[Nat.mul_comm];exact h))
    simp
    omega
theorem acc_decl {s:List UInt8} {nt:NT} (h:declNT s=some nt) : accT nt = []:=by
 unfold declNT at h
 repeat' (first | (cases h;done) | (cases h;rfl) | split at h)
theorem acc_stmt {s:List UInt8} {nt:NT} (h:stmtNT s=some nt) : accT nt = []:=by
 unfold stmtNT at h
 repeat' (first | (cases h;done) | (cases h;rfl) | split at h)
set_option maxHeartbeats 1000000 in
theorem acc_first {s:List UInt8} {nt:NT} (h:firstNT s=some nt) : accT nt = []:=by
 unfold firstNT at h
 by_cases e0:s = [110,117,109,98,101,114]
 ·rw[if_pos e0] at h;cases h;rfl
 rw[if_neg e0] at h
 by_cases e1:s = [110,97,109,101]
 ·rw[if_pos e1] at h;cases h;rfl
 rw[if_neg e1] at h
 by_cases e2:s = [110,117,108,108]
 ·rw[if_pos e2] at h;cases h;rfl
 rw[if_neg e2] at h
 by_cases e3:s = [114,111,111,116]
 ·rw[if_pos e3] at h;cases h;rfl
 rw[if_neg e3] at h
 by_cases e4:s = [110,101,119]
 ·rw[if_pos e4] at h;cases h;rfl
 rw[if_neg e4] at h
 by_cases e5:s = [97,114,114]
 ·rw[if_pos e5] at h;cases h;rfl
 rw[if_neg e5] at h
 by_cases e6:s = [108,101,110]
 ·rw[if_pos e6] at h;cases h;rfl
 rw[if_neg e6] at h
 by_cases e7:s = [105,110]
 ·rw[if_pos e7] at h;cases h;rfl
 rw[if_neg e7] at h
 by_cases e8:s = [105,109,103]
 ·rw[if_pos e8] at h;cases h;rfl
 rw[if_neg e8] at h
 by_cases e9:s = [115,105,122,101]
 ·rw[if_pos e9] at h;cases h;rfl
 rw[if_neg e9] at h
 by_cases e10:s = [112,114,111,109,111,116,101]
 ·rw[if_pos e10] at h;cases h;rfl
 rw[if_neg e10] at h
 by_cases e11:s = [40]
 ·rw[if_pos e11] at h;cases h;rfl
 rw[if_neg e11] at h
 cases h
theorem keep_len {ts:List Tok} {M:Nat} (hT:Toks ts) (hM:20≤M) (ht:∀ i,i<ts.length→TLen M (tk ts i)) : ∀ (f:Nat) (nt:NT) (i:Nat) (ns:List PN),(∀ t∈accT nt,TLen M t)→Keep (LenOK M) ns (P ts f nt i ns):=by
 intro f
 have l0:∀ k ks j,LenOK M ⟨k,[],ks,(tk ts j).frm⟩:=fun _ _ j=>⟨by simp,(tk_len ht j).2⟩
 have l00:∀ k ks,LenOK M ⟨k,[],ks,0⟩:=fun _ _=>⟨by simp,by simp⟩
 have l1:∀ k j ks q,LenOK M ⟨k,(tk ts j).text,ks,(tk ts q).frm⟩:=fun _ j _ q=>⟨(tk_len ht j).1,(tk_len ht q).2⟩
 have l2:∀ k j ks q,LenOK M ⟨k,Lib.decDigits (tk ts j).n,ks,(tk ts q).frm⟩:=fun _ j _ q=>by
  have:=dec_len2 19 (tk ts j).n (by have:=hT.num j;omega)
  have h2:=(tk_len ht q).2
  unfold LenOK
  simp only
  omega
 have l3:∀ (ns:List PN) k ks n,(∀ x∈ns,LenOK M x)→LenOK M ⟨k,[],ks,plN ns n⟩:=fun ns _ _ n h=>by
  refine⟨by simp,?_⟩
  unfold plN
  cases hx:ns[n]? with
  | none=>simp
  | some x=>exact (h x (List.mem_of_getElem? hx)).2
 have nl:∀ (nt:NT),accT nt = []→∀ t∈accT nt,TLen M t:=fun nt h t hh=>by rw[h] at hh;cases hh
 induction f with
 | zero=>intro nt i ns _;exact Keep.none
 | succ f ih =>
   intro nt i ns ha
   cases nt
   all_goals simp only[P]
   case signedL acc =>
    split
    ·refine ih (.signedL _) _ _ (fun t hh=>?_)
     rcases List.mem_append.1 hh with hh | hh
     ·exact ha t hh
     ·simp at hh;subst hh;exact tk_len ht i
    ·refine Keep.bind (ih .back _ _ (nl _ rfl)) fun v j ms=>ih (.laySigns _ _) _ _ (fun t hh=>ha t (by simpa [accT] using hh))
   case block pl =>
    refine Keep.want (ih (.blockL _ _) _ _ (fun t hh=>?_))
    simp only[accT,List.mem_cons,List.not_mem_nil,or_false] at hh
    subst hh
    exact⟨by simp,(tk_len ht i).2⟩
   case blockL pl acc =>
    have hpl:pl≤M:=(ha ⟨0,[],pl,0,0⟩ (by simp[accT])).2
    split
    ·exact Keep.lay ⟨by simp,hpl⟩
    ·exact Keep.bind (ih .stmt _ _ (nl _ rfl)) fun v j ms=>ih (.blockL _ _) _ _ ha
   case laySigns acc n =>
    intro v j ms e hn
    cases e
    exact laySg_len2 acc n ns ha hn
   all_goals
    repeat (first
     | exact Keep.err
     | exact Keep.ok
     | exact Keep.lay (l00 _ _)
     | exact Keep.lay (l0 _ _ _)
     | exact Keep.lay' (l3 _ _ _ _)
     | exact Keep.lay (l1 _ _ _ _)
     | exact Keep.lay (l2 _ _ _ _)
     | exact ih _ _ _ (nl _ rfl)
     | exact ih _ _ _ (nl _ (acc_decl (by assumption)))
     | exact ih _ _ _ (nl _ (acc_stmt (by assumption)))
     | exact ih _ _ _ (nl _ (acc_first (by assumption)))
     | (refine ih _ _ _ (nl _ ?_);split <;> rfl)
     | refine Keep.want ?_
     | (refine Keep.bind ?_ fun v j ms=>?_)
     | split)
end Go.Proofs.YtnmfcaahdeddnaaGreatDoor
