/-
  What a judge wants of an instruction's number; conditions: the judge, the function and the instruction lie as told.
-/
import Derived.Test.YtkjkpkmmojchiaaGreatDoorIrO
import Derived.Deep.Cut
namespace Go.Proofs.YtkjkpkmmojchiaaGreatDoor
open Go.RowKit Go.Maps
set_option linter.unusedVariables false
set_option linter.unusedSimpArgs false

theorem Out.yesW {n i : Int} {w : World} {N : World → Prop} {e : Ending} {w' : World} (h : Out true n i (fun w' => w' = w) N e w') : e = .returned (.tuple #[]) ∧ w = w' := ⟨h.1, h.2.symm⟩
def psAt (F : List Fu) (k : Int) : Int := match F[k.toNat]? with | some g => g.ps | none => 0
def numOk (F : List Fu) (mg : Int) (f : Fu) (i : Int) (x : In) (seen : Int → Bool) : Bool :=
  if x.op = 4 then decide (1 ≤ x.k ∧ x.k ≤ 12) else if x.op = 5 then decide (13 ≤ x.k ∧ x.k ≤ 15)
  else if x.op = 8 then decide (0 ≤ x.k ∧ x.k ≤ 1000) else if x.op = 9 then decide (0 ≤ x.k ∧ x.k ≤ 1000) else if x.op = 13 then decide (0 ≤ x.k ∧ x.k ≤ 1000)
  else if x.op = 21 then decide (0 ≤ x.k ∧ x.k ≤ (f.code.length : Int) - 1) && decide (x.k ≠ i) else if x.op = 22 then decide (0 ≤ x.k ∧ x.k ≤ (f.code.length : Int) - 1) && decide (x.k ≠ i)
  else if x.op = 23 then decide (0 ≤ x.k ∧ x.k ≤ (F.length : Int) - 1) && decide ((x.l.length : Int) = psAt F x.k)
  else if x.op = 27 then mergeOk mg seen x else true
def nCnt (op : Int) (cnt : Nat) : Nat := if op = 27 then cnt + 1 else cnt
def nSeen (op k : Int) (seen : Int → Bool) : Int → Bool := if op = 27 then addS seen k else seen

end Go.Proofs.YtkjkpkmmojchiaaGreatDoor
