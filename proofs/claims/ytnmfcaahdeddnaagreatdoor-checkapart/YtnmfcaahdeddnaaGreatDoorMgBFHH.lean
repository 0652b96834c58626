/-
  Parts of the proof; conditions: as each says.
-/
import Derived.Test.YtnmfcaahdeddnaaGreatDoorProg
import Derived.WalkKit
import Derived.WalkSpells
import Derived.WalkLawsBesides
import Derived.Deep.QuietTactic
import Derived.BigQuiet
import Derived.Lib.Bytealg
import Derived.Lib.UnsafeStr
namespace Go.Proofs.YtnmfcaahdeddnaaGreatDoor
open Go.RowKit
structure Fr (S:List Nat) (w w' : World) : Prop where
 os:w'.os=w.os
 tape:w'.tape=w.tape
 output:w'.output=w.output
 size:w.heap.size≤w'.heap.size
 block:∀ k,k<w.heap.size→k∉S→w'.heap[k]? = w.heap[k]?
theorem Fr.refl (S:List Nat) (w:World) : Fr S w w:=⟨rfl,rfl,rfl,Nat.le_refl _,fun _ _ _=>rfl⟩
theorem Fr.trans {S:List Nat} {a b c:World} (h:Fr S a b) (k:Fr S b c) : Fr S a c :=
 ⟨k.os.trans h.os,k.tape.trans h.tape,k.output.trans h.output,Nat.le_trans h.size k.size,fun i hi hS=>(k.block i (Nat.lt_of_lt_of_le hi h.size) hS).trans (h.block i hi hS)⟩
theorem Fr.drew {S:List Nat} {a b:World} (h:Fr S a b) : Fr S a b.drew:=⟨h.os,h.tape,h.output,h.size,h.block⟩
theorem Fr.drewN {S:List Nat} {a b:World} (h:Fr S a b) (n:Nat) : Fr S a (b.drewN n):=⟨h.os,h.tape,h.output,h.size,h.block⟩
theorem Fr.alloc {S:List Nat} {a b:World} (h:Fr S a b) (o:Obj) : Fr S a (b.alloc o) :=
 h.trans ⟨rfl,rfl,rfl,by simp,fun k hk _=>Below.heap_alloc _ _ _ hk⟩
theorem Fr.setCell {S:List Nat} {a b:World} (h:Fr S a b) {p:Addr} (hp:p.block∈S∨a.heap.size≤p.block) (u:Value) : Fr S a (b.setCell p u) :=
 ⟨h.os,h.tape,h.output,by simpa [World.setCell] using h.size,fun k hk hS=>by
  rw[Below.heap_setCell]
  ·exact h.block k hk hS
  ·rintro rfl
   rcases hp with hp | hp
   ·exact hS hp
   ·omega⟩
theorem Fr.sub {S T:List Nat} {a b:World} (h:Fr S a b) (hT:∀ k,k∈S→k∈T∨a.heap.size≤k) : Fr T a b :=
 ⟨h.os,h.tape,h.output,h.size,fun k hk hS=>h.block k hk (fun hm=>by rcases hT k hm with h1 | h1;exact hS h1;omega)⟩
theorem Fr.below {S:List Nat} {a b:World} {B:Nat} (h:Fr S a b) (hB:B≤a.heap.size) (hS:∀ k,k∈S→B≤k) : Below B a b :=
 ⟨h.os,h.tape,h.output,h.size,fun k hk=>h.block k (by omega) (fun hm=>by have:=hS k hm;omega)⟩
theorem Fr.ofBelow {a b:World} (h:Below a.heap.size a b) : Fr [] a b :=
 ⟨h.os,h.tape,h.output,h.size,fun k hk _=>h.block k hk⟩
theorem Fr.grown {S:List Nat} {a b c:World} {row:Option Nat} (h:Fr S a b) (hg:b.grownBy c row) (hr:∀ k,row=some k→k∈S∨a.heap.size≤k) : Fr S a c :=
 ⟨hg.os.trans h.os,hg.tape.trans h.tape,hg.output.trans h.output,Nat.le_trans h.size hg.size,fun k hk hS=>by
  have h1:=h.size
  rw[hg.block k (by omega) (fun e=>by rcases hr k e.symm with h2 | h2;exact hS h2;omega)]
  exact h.block k hk hS⟩
theorem Fr.cell1 {S:List Nat} {w w' : World} {p:Addr} {u:Value} (h:Fr S w w') (hc:w.cell? p=some u) (hS:p.block∉S) : w'.cell? p=some u:=by
 unfold World.cell? at hc ⊢
 cases hb:w.heap[p.block]? with
 | none=>rw[hb] at hc;simp at hc
 | some o =>
   rw[h.block p.block (Array.getElem?_eq_some_iff.1 hb).1 hS]
   exact hc
def isBl (n:Nat) : Bool:=decide (n=32∨n=9∨n=10∨n=13)
def isLet (n:Nat) : Bool:=decide (97≤n∧n≤122∨65≤n∧n≤90∨n=95)
def isDig (n:Nat) : Bool:=decide (48≤n∧n≤57)
def kindN (n:Nat) : Nat:=if isBl n then 1 else if isLet n then 2 else if isDig n then 3 else if n=39 then 4 else 0
def isWd (n:Nat) : Bool:=isLet n || isDig n
theorem kind_wd (n:Nat) : (kindN n=2∨kindN n=3)↔isWd n=true:=by
 simp only[kindN,isBl,isLet,isDig,isWd,decide_eq_true_eq,Bool.or_eq_true]
 split <;> rename_i h1
 ·constructor
  ·intro h;omega
  ·intro h;omega
 ·split <;> rename_i h2
  ·simp[h2]
  ·split <;> rename_i h3
   ·simp[h3]
   ·split <;> simp <;> omega
def runL:List UInt8→Nat
 | []=>0
 | c::l=>if isWd c.toNat then runL l+1 else 0
def toNl:List UInt8→Nat
 | []=>0
 | c::l=>if c.toNat=10 then 0 else toNl l+1
def skipL:Bool→List UInt8→Nat
 | _,[]=>0
 | true,c::l=>if c.toNat=10 then skipL false l+1 else skipL true l+1
 | false,c::l=>if isBl c.toNat then skipL false l+1 else if c.toNat=47∧l.head? = some 47 then skipL true l+1 else 0
theorem runL_le (l:List UInt8) : runL l≤l.length:=by
 induction l with
 | nil=>simp[runL]
 | cons c l ih=>simp only[runL,List.length_cons];split <;> omega
theorem toNl_le (l:List UInt8) : toNl l≤l.length:=by
 induction l with
 | nil=>simp[toNl]
 | cons c l ih=>simp only[toNl,List.length_cons];split <;> omega
theorem skipL_le (b:Bool) (l:List UInt8) : skipL b l≤l.length:=by
 induction l generalizing b with
 | nil=>simp[skipL]
 | cons c l ih =>
   have h1:=ih true
   have h2:=ih false
   cases b
   ·simp only[skipL,List.length_cons]
    split
    ·omega
    ·split <;> omega
   ·simp only[skipL,List.length_cons]
    split <;> omega
theorem skip_note (l:List UInt8) : skipL true l=toNl l+skipL false (l.drop (toNl l)):=by
 induction l with
 | nil=>simp[skipL,toNl]
 | cons c l ih =>
   simp only[skipL,toNl]
   split
   ·rename_i h
    simp[skipL,isBl,h]
   ·rw[ih]
    simp
    omega
def fig (n:Nat) : Nat:=if isDig n then n-48 else if 97≤n∧n≤102 then n-87 else if 65≤n∧n≤70 then n-55 else 16
def valL (base:Nat) : List UInt8→Nat→Option Nat
 | [],n=>some n
 | c::l,n=>if base≤fig c.toNat∨(9223372036854775807-fig c.toNat) / base<n then none else valL base l (n*base+fig c.toNat)
def valueL (base:Nat) (l:List UInt8) : Option Nat:=if l = [] then none else valL base l 0
def quotedL (l:List UInt8) : Bool:=decide (l.length=3∧l.head? = some 39∧l[2]? = some 39)
def numL (l:List UInt8) : Option Nat :=
 if quotedL l then (if 32≤(l.getD 1 0).toNat∧(l.getD 1 0).toNat≤126 then some (l.getD 1 0).toNat else none)
 else if l.take 2 = [48,120] then valueL 16 (l.drop 2) else valueL 10 l
def words:List (List UInt8):=[[114,101,99],[102,110],[108,101,116],[105,102],[101,108,115,101],[119,104,105,108,101],[114,101,116,117,114,110],[111,117,116],[115,116,111,112],[109,101,114,103,101],[112,114,111,109,111,116,101],[110,101,119],[97,114,114],[108,101,110],[105,110],[105,109,103],[115,105,122,101],[110,117,108,108],[114,111,111,116]]
def wordL (l:List UInt8) : Bool:=words.contains l
def nameL (l:List UInt8) : Bool:=(match l with | []=>false | c::_=>isLet c.toNat)&&decide (runL l=l.length) && !wordL l
def signs:List (List UInt8):=[[60,60],[62,62],[61,61],[33,61],[60,61],[40],[41],[123],[125],[91],[93],[44],[59],[46],[61],[43],[45],[42],[47],[37],[38],[124],[94],[60],[33],[126]]
def signL (l:List UInt8) : Nat:=match signs.find? (fun g=>g.isPrefixOf l) with | some g=>g.length | none=>0
structure Tok where
 kind:Nat
 text:List UInt8
 frm:Nat
 to:Nat
 n:Nat
def readL (p:Nat) (l:List UInt8) : Except Nat Tok :=
 if kindN (l.getD 0 0).toNat=2 then .ok ⟨if wordL (l.take (runL l)) then 2 else 1,l.take (runL l),p,p+runL l,0⟩
 else if kindN (l.getD 0 0).toNat=3 then (match numL (l.take (runL l)) with | none=>.error 41 | some n=>.ok ⟨4,l.take (runL l),p,p+runL l,n⟩)
 else if kindN (l.getD 0 0).toNat=4 then (match numL (l.take 3) with | none=>.error 41 | some n=>.ok ⟨4,l.take 3,p,p+min 3 l.length,n⟩)
 else if signL l=0 then .error 40 else .ok ⟨3,l.take (signL l),p,p+signL l,0⟩
def scanL:Nat→Nat→List UInt8→List Tok×Option (Nat×Nat)
 | 0,_,_=>([],none)
 | f+1,p,l =>
   if skipL false l=l.length then ([],none)
   else match readL (p+skipL false l) (l.drop (skipL false l)) with
    | .error e=>([],some (p+skipL false l,e))
    | .ok t=>(t::(scanL f t.to (l.drop (t.to-p))).1,(scanL f t.to (l.drop (t.to-p))).2)
theorem kind_big {n:Nat} (h:128≤n) : kindN n=0:=by
 simp only[kindN,isBl,isLet,isDig,decide_eq_true_eq]
 rw[if_neg (by omega),if_neg (by omega),if_neg (by omega),if_neg (by omega)]
end Go.Proofs.YtnmfcaahdeddnaaGreatDoor
