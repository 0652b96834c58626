/-
  Parts of the proof; conditions: as each says.
-/
import Derived.Test.YtnmfcaahdeddnaaGreatDoorMgJPHG
namespace Go.Proofs.YtnmfcaahdeddnaaGreatDoor.T5
open Go.RowKit
set_option linter.unusedVariables false
set_option linter.unusedSimpArgs false
def kdN (L:List Nd) (n:Nat) : Int:=match L[n]? with | some x=>x.kind | none=>0
def txN (L:List Nd) (n:Nat) : List UInt8:=match L[n]? with | some x=>x.text.data.toList | none=>[]
def plN (L:List Nd) (n:Nat) : Int:=match L[n]? with | some x=>x.pl | none=>0
abbrev NM:=List UInt8→Option Nat
def NM.nil:NM:=fun _=>none
def NM.put (m:NM) (k:List UInt8) (n:Nat) : NM:=fun j=>if j=k then some n else m j
abbrev JE (α:Type):=Except (Int×Nat) α
def decE (L:List Nd) (n:Nat) (m:NM) : JE NM:=match m (txN L n) with | some _=>.error (plN L n,80) | none=>.ok (m.put (txN L n) n)
def hasE (C:List NM) (k:List UInt8) : Bool:=C.any (fun m=>(m k).isSome)
structure Env where
 fl:NM
 rc:NM
 fn:NM
def selfE (L:List Nd) (E:Env) (C:List NM) (n:Nat) : JE Unit :=
 if kdN L n=17 then (if hasE C (txN L n) then .ok () else .error (plN L n,80))
 else if kdN L n=20 then (if (E.fl (txN L n)).isSome then .ok () else .error (plN L n,80))
 else if kdN L n=23 then (if (E.rc (txN L n)).isSome then .ok () else .error (plN L n,80))
 else if kdN L n=22 then match E.fn (txN L n) with
  | none=>.error (plN L n,80)
  | some f=>if (kN L n).length=(kN L f).length-1 then .ok () else .error (plN L n,81)
 else .ok ()
def eachE (g:Nat→JE Unit) : List Nat→JE Unit
 | []=>.ok ()
 | k::r=>match g k with | .error e=>.error e | .ok _=>eachE g r
def exprF (L:List Nd) (E:Env) (C:List NM) : Nat→Nat→JE Unit
 | 0,_=>.ok ()
 | f+1,n=>match selfE L E C n with | .error e=>.error e | .ok _=>eachE (exprF L E C f) (kN L n)
def exprE (L:List Nd) (E:Env) (C:List NM) (n:Nat) : JE Unit:=exprF L E C (n+1) n
theorem eachE_congr {g h:Nat→JE Unit} : ∀ {l:List Nat},(∀ k∈l,g k=h k)→eachE g l=eachE h l
 | [],_=>rfl
 | k::r,H=>by
   unfold eachE
   rw[H k (by simp),eachE_congr (fun j hj=>H j (by simp[hj]))]
theorem exprF_fuel {L:List Nd} (h:Ahead L) (E:Env) (C:List NM) : ∀ (f f' n:Nat),n<f→n<f'→exprF L E C f n=exprF L E C f' n:=by
 intro f
 induction f with
 | zero=>intro f' n h1;omega
 | succ f ih =>
   intro f' n h1 h2
   cases f' with
   | zero=>omega
   | succ f' =>
     unfold exprF
     rw[eachE_congr (fun k hk=>ih f' k (by have:=h.kid hk;omega) (by have:=h.kid hk;omega))]
theorem exprE_eq {L:List Nd} (h:Ahead L) (E:Env) (C:List NM) (n:Nat) : exprE L E C n=match selfE L E C n with | .error e=>.error e | .ok _=>eachE (exprE L E C) (kN L n):=by
 unfold exprE
 rw[exprF]
 rw[eachE_congr (fun k hk=>exprF_fuel h E C n (k+1) k (h.kid hk) (by omega))]
def greensE (L:List Nd) (E:Env) (C:List NM) : List Nat→NM→JE Unit
 | [],_=>.ok ()
 | k::r,m=>match exprE L E C k with
   | .error e=>.error e
   | .ok _=>match decE L k m with | .error e=>.error e | .ok m'=>greensE L E C r m'
def mergeE (L:List Nd) (E:Env) (C:List NM) (n:Nat) : JE Unit:=if 4<(kN L n).length then .error (plN L n,82) else greensE L E C (kN L n) NM.nil
def seqE (g:Nat→NM→JE NM) : List Nat→NM→JE Unit
 | [],_=>.ok ()
 | k::r,m=>match g k m with | .error e=>.error e | .ok m'=>seqE g r m'
def kid (L:List Nd) (n i:Nat) : Nat:=(kN L n).getD i 0
def stmtF (L:List Nd) (E:Env) : Nat→List NM→Nat→NM→JE NM
 | 0,_,_,m=>.ok m
 | f+1,C,n,m =>
   if kdN L n=5 then (if hasE (m::C) (txN L n) then .error (plN L n,80) else match eachE (exprE L E (m::C)) (kN L n) with | .error e=>.error e | .ok _=>.ok (m.put (txN L n) n))
   else if kdN L n=7 then match exprE L E (m::C) (kid L n 0) with
    | .error e=>.error e
    | .ok _=>match seqE (stmtF L E f (m::C)) (kN L (kid L n 1)) NM.nil with
      | .error e=>.error e
      | .ok _=>match seqE (stmtF L E f (m::C)) (kN L (kid L n 2)) NM.nil with | .error e=>.error e | .ok _=>.ok m
   else if kdN L n=8 then match exprE L E (m::C) (kid L n 0) with
    | .error e=>.error e
    | .ok _=>match kN L (kid L n 1) with
      | []=>.ok m
      | k::r=>if kdN L k=13 then match mergeE L E (m::C) k with
          | .error e=>.error e
          | .ok _=>match seqE (stmtF L E f (m::C)) r NM.nil with | .error e=>.error e | .ok _=>.ok m
       else match seqE (stmtF L E f (m::C)) (k::r) NM.nil with | .error e=>.error e | .ok _=>.ok m
   else if kdN L n=13 then .error (plN L n,82)
   else match eachE (exprE L E (m::C)) (kN L n) with | .error e=>.error e | .ok _=>.ok m
def stmtE (L:List Nd) (E:Env) (C:List NM) (n:Nat) (m:NM) : JE NM:=stmtF L E (n+1) C n m
def blockE (L:List Nd) (E:Env) (C:List NM) (l:List Nat) : JE Unit:=seqE (stmtE L E C) l NM.nil
theorem seqE_congr {g h:Nat→NM→JE NM} : ∀ {l:List Nat},(∀ k∈l,∀ m,g k m=h k m)→∀ m,seqE g l m=seqE h l m
 | [],_,_=>rfl
 | k::r,H,m=>by
   unfold seqE
   rw[H k (by simp)]
   cases h k m with
   | error e=>rfl
   | ok m'=>exact seqE_congr (fun j hj=>H j (by simp[hj])) m'
structure SrD where
 name:ByteArray
 fields:List ByteArray
structure FnD where
 name:ByteArray
 params:Nat
 vars:List ByteArray
 node:Nat
structure Ds where
 sorts:List SrD
 fns:List FnD
 main:Nat
 merges:List Nat
def tbN (L:List Nd) (n:Nat) : ByteArray:=match L[n]? with | some x=>x.text | none=>⟨#[]⟩
def addVar (v:ByteArray) : List FnD→List FnD
 | []=>[]
 | [f]=>[{ f with vars:=f.vars++[v] }]
 | f::g::r=>f::addVar v (g::r)
def mainB:List UInt8:=[109,97,105,110]
def stepD (L:List Nd) (d:Ds) (n:Nat) : Ds :=
 if kdN L n=2 then { d with sorts:=d.sorts++[⟨tbN L n,(kN L n).map (tbN L)⟩] }
 else if kdN L n=3 then { d with main:=if txN L n=mainB then d.fns.length else d.main,fns:=d.fns++[⟨tbN L n,(kN L n).length-1,((kN L n).take ((kN L n).length-1)).map (tbN L),n⟩] }
 else if kdN L n=5 then { d with fns:=addVar (tbN L n) d.fns }
 else if kdN L n=13 then { d with merges:=d.merges++[n] }
 else d
def descL (L:List Nd) : Ds:=(treeW L).foldl (fun d t=>stepD L d t.1) ⟨[],[],0,[]⟩
def decsE (L:List Nd) : List Nat→NM→JE NM
 | [],m=>.ok m
 | k::r,m=>match decE L k m with | .error e=>.error e | .ok m'=>decsE L r m'
def recsE (L:List Nd) : List Nat→NM→NM→JE (NM×NM)
 | [],rc,fl=>.ok (rc,fl)
 | k::r,rc,fl=>if kdN L k=2 then match decE L k rc with
     | .error e=>.error e
     | .ok rc'=>if 100<(kN L k).length then .error (plN L k,2) else match decsE L (kN L k) fl with | .error e=>.error e | .ok fl'=>recsE L r rc' fl'
  else recsE L r rc fl
def funE (L:List Nd) (E:Env) (f:FnD) : JE Unit :=
 if 100<f.vars.length then .error (plN L f.node,2)
 else match decsE L ((kN L f.node).take ((kN L f.node).length-1)) NM.nil with
  | .error e=>.error e
  | .ok m=>blockE L E [m] (kN L (kid L f.node f.params))
def funsE (L:List Nd) (E:Env) : List FnD→JE Unit
 | []=>.ok ()
 | f::r=>match funE L E f with | .error e=>.error e | .ok _=>funsE L E r
def judgeE (L:List Nd) (d:Ds) : JE Unit :=
 if 100<d.sorts.length∨200<d.fns.length then .error (0,2)
 else match recsE L (kN L (L.length-1)) NM.nil NM.nil with
  | .error e=>.error e
  | .ok (rc,fl)=>match decsE L (d.fns.map FnD.node) NM.nil with
    | .error e=>.error e
    | .ok fn=>match fn mainB with
      | none=>.error (0,83)
      | some k=>if 0<(kN L k).length-1 then .error (0,83) else funsE L ⟨fl,rc,fn⟩ d.fns
def progE (L:List Nd) : Except (Int×Nat) Ds :=
 if (checkL L).2≠0 then .error (if (checkL L).2=2∨(checkL L).2=51∨L.length≤(checkL L).1 then 0 else max (plN L (checkL L).1) 0,(checkL L).2)
 else match judgeE L (descL L) with
  | .error e=>.error e
  | .ok _=>.ok (descL L)
end Go.Proofs.YtnmfcaahdeddnaaGreatDoor.T5
namespace Go.Proofs.YtnmfcaahdeddnaaGreatDoor.T5
open Go.RowKit Go.Shelf
set_option linter.unusedVariables false
end Go.Proofs.YtnmfcaahdeddnaaGreatDoor.T5
