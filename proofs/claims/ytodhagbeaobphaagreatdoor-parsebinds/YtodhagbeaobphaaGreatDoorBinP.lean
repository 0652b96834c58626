/-
  How tightly operators bind: the document's lines of them, and every pair of operators as it is read; no condition.
-/
import Derived.Test.YtodhagbeaobphaaGreatDoorAwk
namespace Go.Proofs.YtodhagbeaobphaaGreatDoor
open Go.RowKit
set_option linter.unusedVariables false
set_option linter.unusedSimpArgs false

def binaries : List (List UInt8) := [[43], [45], [42], [47], [37], [60, 60], [62, 62], [38], [94], [124], [61, 61], [33, 61], [60], [60, 61]]
def levN (s : List UInt8) : Nat :=
  if s = [42] ∨ s = [47] ∨ s = [37] then 5
  else if s = [43] ∨ s = [45] then 4
  else if s = [60, 60] ∨ s = [62, 62] then 3
  else if s = [38] then 2
  else if s = [124] ∨ s = [94] then 1
  else 0
def pairT (a b : List UInt8) : List UInt8 := [0x66,0x6e,0x20,0x66,0x28,0x29,0x20,0x7b,0x20,0x72,0x65,0x74,0x75,0x72,0x6e,0x20,0x31,0x20] ++ a ++ [0x20,0x32,0x20] ++ b ++ [0x20,0x33,0x3b,0x20,0x7d]
/-- The last node that joins two, from n nodes on downward. -/
def lastJ (ms : List PN) : Nat → Option Nat
  | 0 => none
  | n + 1 => if kdN ms n = 19 then some n else lastJ ms n
def nodeAt (ms : List PN) (n : Nat) : PN := ms.getD n ⟨0, [], [], 0⟩
/-- What the law asks of a pair. -/
def pairOk (a b : List UInt8) : Bool :=
  match prgL ⟨(pairT a b).toArray⟩ with
  | .error (p, c) => decide (levN a = 0 ∧ levN b = 0 ∧ c = 60)
  | .ok ms =>
    !(decide (levN a = 0 ∧ levN b = 0)) && decide (5 ≤ ms.length) &&
      (match lastJ ms ms.length with
       | none => false
       | some n => decide ((nodeAt ms n).text = (if levN a < levN b then a else b)) && decide ((nodeAt ms n).kids.length = 2) && (decide ((nodeAt ms (hd (nodeAt ms n).kids)).kind = 19) == decide (levN b ≤ levN a)) && decide (hd (nodeAt ms n).kids < ms.length))
theorem pairs_ok : (binaries.all fun a => binaries.all fun b => pairOk a b) = true := by kernel_rfl
end Go.Proofs.YtodhagbeaobphaaGreatDoor
