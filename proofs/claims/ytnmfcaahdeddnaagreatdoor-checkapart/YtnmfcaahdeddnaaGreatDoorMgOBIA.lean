/-
  Parts of the proof; conditions: as each says.
-/
import Derived.Test.YtnmfcaahdeddnaaGreatDoorMgAKFO
import Derived.Test.YtnmfcaahdeddnaaGreatDoorMgMJEI
namespace Go.Proofs.YtnmfcaahdeddnaaGreatDoor
open Go.RowKit
set_option linter.unusedVariables false
set_option linter.unusedSimpArgs false
def fnV (f:Nat) : Value:=.func (.func f) #[] #[]
def EsR:List (List UInt8×Nat)→Nat→List MapEntry
 | [],_=>[]
 | x::r,b=>⟨.string ⟨x.1.toArray⟩,fnV x.2,b⟩::EsR r (b+1)
theorem EsR_snoc:∀ (l:List (List UInt8×Nat)) (x:List UInt8×Nat) (b:Nat),EsR (l++[x]) b=EsR l b++[⟨.string ⟨x.1.toArray⟩,fnV x.2,b+l.length⟩]
 | [],x,b=>rfl
 | y::l,x,b=>by
   simp only[List.cons_append,EsR,EsR_snoc l x (b+1),List.length_cons]
   rw[show b+1+l.length=b+(l.length+1) by omega]
theorem str_beq (a b:List UInt8) : ((⟨a.toArray⟩ : ByteArray) == ⟨b.toArray⟩)=(a == b):=by
 rw[Bool.eq_iff_iff,MapKept.bytes_beq]
 simp
theorem findR_none (k:List UInt8) : ∀ (l:List (List UInt8×Nat)) (b i:Nat),l.lookup k=none→Instr.findNow .string (.string ⟨k.toArray⟩) (EsR l b) i=some none
 | [],b,i,h=>rfl
 | x::l,b,i,h=>by
   obtain⟨a,v⟩:=x
   rw[List.lookup_cons] at h
   cases hk:(k == a) with
   | true=>rw[hk] at h;cases h
   | false =>
     rw[hk] at h
     simp only[EsR,Instr.findNow,Instr.sameNow,str_beq,hk]
     exact findR_none k l (b+1) (i+1) h
theorem findR_some (k:List UInt8) (f:Nat) : ∀ (l:List (List UInt8×Nat)) (b i:Nat),l.lookup k=some f→∃ j,Instr.findNow .string (.string ⟨k.toArray⟩) (EsR l b) i=some (some (j,fnV f))
 | [],b,i,h=>by cases h
 | x::l,b,i,h=>by
   obtain⟨a,v⟩:=x
   rw[List.lookup_cons] at h
   cases hk:(k == a) with
   | true =>
     rw[hk] at h
     cases h
     exact⟨i,by simp only[EsR,Instr.findNow,Instr.sameNow,str_beq,hk]⟩
   | false =>
     rw[hk] at h
     obtain⟨j,hj⟩:=findR_some k f l (b+1) (i+1) h
     exact⟨j,by simp only[EsR,Instr.findNow,Instr.sameNow,str_beq,hk];exact hj⟩
theorem under9' : Tryz.prog.underlying 9=some .string:=by kernel_rfl
theorem under75:Tryz.prog.underlying 132=some (.map 9 193):=by kernel_rfl
theorem zero118 (w:World) : (zeroValue 193).run Tryz.prog w = .ok .nilFunc w:=by kernel_rfl
theorem check9 (e:Bool) (v:ByteArray) (w:World) : (Instr.checkKey e 10000 9 (.string v)).run Tryz.prog w = .ok () w:=by
 have h:∀ n,(Instr.checkKey e (n+1) 9 (.string v)).run Tryz.prog w = .ok () w:=by
  intro n
  simp[Instr.checkKey,run_underlying under9']
 exact h 9999
theorem alloc_set (w:World) (o o' : Obj) : { w.alloc o with heap:=(w.alloc o).heap.setIfInBounds w.heap.size o' } = w.alloc o' := by
 simp only[World.alloc]
 congr 1
 apply Array.ext'
 simp[Array.setIfInBounds,Array.toList_push]
theorem insR (w:World) (l:List (List UInt8×Nat)) (x:List UInt8×Nat) (h:l.lookup x.1=none) :
 (Instr.mapUpdate 132 (.map (some w.heap.size)) (.string ⟨x.1.toArray⟩) (fnV x.2)).run Tryz.prog (w.alloc (.map (EsR l 0).toArray l.length)) = .ok () (w.alloc (.map (EsR (l++[x]) 0).toArray (l.length+1))):=by
 have hf:=findR_none x.1 l 0 0 h
 have hb:(w.alloc (.map (EsR l 0).toArray l.length)).heap[w.heap.size]? = some (.map (EsR l 0).toArray l.length):=heap_alloc_new w _
 have hset:=MapKept.run_setObj_map (P:=Tryz.prog) (.map ((EsR l 0).toArray.push ⟨.string ⟨x.1.toArray⟩,fnV x.2,l.length⟩) (l.length+1)) hb
 rw[alloc_set] at hset
 simp only[Instr.mapUpdate,run_underlying under75,Sem.run_bind,Result.andThen,MapKept.run_getObj_map hb,check9,Instr.findKey,run_underlying under9',hf,EsR_snoc,Sem.run_pure,hset]
 simp
def declM:List (List UInt8×Nat):=[([114,101,99],107),([102,110],108)]
def stmtM:List (List UInt8×Nat):=[([108,101,116],109),([105,102],110),([119,104,105,108,101],111),([114,101,116,117,114,110],112),([111,117,116],113),([115,116,111,112],114),([109,101,114,103,101],115)]
def firstM:List (List UInt8×Nat):=[([110,117,109,98,101,114],116),([110,97,109,101],117),([110,117,108,108],118),([114,111,111,116],119),([110,101,119],120),([97,114,114],121),([108,101,110],122),([105,110],123),([105,109,103],124),([115,105,122,101],125),([112,114,111,109,111,116,101],126),([40],127)]
def RM (w:World) (g:Nat) (l:List (List UInt8×Nat)) : Prop:=w.heap[g]? = some (.map (EsR l 0).toArray l.length)
theorem RM.fr {w w' : World} {g:Nat} {l:List (List UInt8×Nat)} {S:List Nat} (h:RM w g l) (f:Fr S w w') (hg:g∉S) : RM w' g l :=
 (f.block g (Array.getElem?_eq_some_iff.1 h).1 hg).trans h
theorem RM.none {w:World} {g:Nat} {l:List (List UInt8×Nat)} (h:RM w g l) {k:List UInt8} (hk:l.lookup k=none) : (Instr.lookup 132 (.map (some g)) (.string ⟨k.toArray⟩) true).run Tryz.prog w = .ok (.tuple #[.nilFunc,.bool false]) w:=by
 have hf:=findR_none k l 0 0 hk
 unfold RM at h
 simp[Instr.lookup,run_underlying under75,MapKept.run_getObj_map h,check9,Instr.findKey,run_underlying under9',hf,zero118,Result.andThen]
theorem RM.some {w:World} {g:Nat} {l:List (List UInt8×Nat)} (h:RM w g l) {k:List UInt8} {f:Nat} (hk:l.lookup k=some f) : (Instr.lookup 132 (.map (some g)) (.string ⟨k.toArray⟩) true).run Tryz.prog w = .ok (.tuple #[.func (.func f) #[] #[],.bool true]) w:=by
 obtain⟨j,hf⟩:=findR_some k f l 0 0 hk
 unfold RM at h
 simp[Instr.lookup,run_underlying under75,MapKept.run_getObj_map h,check9,Instr.findKey,run_underlying under9',hf,fnV,Result.andThen]
end Go.Proofs.YtnmfcaahdeddnaaGreatDoor
