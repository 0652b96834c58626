/-
  Which instructions and which code the document takes, told purely; no condition.
-/
import Derived.Test.YtdaealionicmjaaDoorChkD
namespace Go.Proofs.YtdaealionicmjaaDoor
open Go.RowKit
set_option linter.unusedVariables false
set_option linter.unusedSimpArgs false

/-- One field and its letter. -/
def oneR (x : In) (f : Fu) (c : Nat) : Bool := (hasL (rfT x.op) c || fieldL x c == 0) && (!(hasL (rT x.op) c || hasL (wT x.op) c) || (decide (0 ≤ fieldL x c) && decide (fieldL x c < f.rs)))
def abcR (x : In) (f : Fu) : List Nat → Bool
  | [] => true
  | c :: r => oneR x f c && abcR x f r
def listR (f : Fu) (l : List Int) : Bool := l.all (fun z => decide (0 ≤ z) && decide (z < f.rs))
def lastR (f : Fu) (p : Nat) (x : In) : Bool := !(((p : Int) == (f.code.length : Int) - 1) && x.op != 21 && x.op != 24 && x.op != 25)
def insR (F : List Fu) (mg : Int) (f : Fu) (p : Nat) (x : In) : Bool :=
  !(txt (rnT x.op)).toList.isEmpty && (abcR x f [65, 66, 67] && ((hasL (rfT x.op) 75 || x.k == 0) && ((hasL (rfT x.op) 76 || decide (x.l.length = 0)) && (listR f x.l && (lastR f p x && numR F mg f p x)))))

/-- Instructions from number p on: the first that is wrong, or the merges that were met. -/
def codeR (F : List Fu) (mg : Int) (f : Fu) : List In → Nat → List Int → Except Nat (List Int)
  | [], _, s => .ok s
  | x :: r, p, s => if insR F mg f p x && !(x.op == 27 && heldL s x.k) then codeR F mg f r (p + 1) (if x.op = 27 then s ++ [x.k] else s) else .error p
def funR (F : List Fu) (mg : Int) (f : Fu) (s : List Int) : Except Nat (List Int) :=
  if 0 ≤ f.ps ∧ f.ps ≤ f.rs ∧ f.rs ≤ 1000 ∧ 1 ≤ f.code.length ∧ f.code.length ≤ 100000 then codeR F mg f f.code 0 s else .error 0
def funsR (F : List Fu) (mg : Int) : List Fu → Nat → List Int → Except (Nat × Nat) Unit
  | [], _, _ => .ok ()
  | f :: r, n, s => match funR F mg f s with
    | .error p => .error (n, p)
    | .ok t => funsR F mg r (n + 1) t
def wholeR (F : List Fu) (mn mg : Int) : Except (Nat × Nat) Unit :=
  if 0 ≤ mg ∧ (0 ≤ mn ∧ mn ≤ (F.length : Int) - 1) ∧ psAt F mn = 0 then funsR F mg F 0 [] else .error (0, 0)
def checkR (F : List Fu) (mn mg : Int) : Nat × Nat × Nat := match wholeR F mn mg with | .ok _ => (0, 0, 0) | .error (a, b) => (a, b, 100)
end Go.Proofs.YtdaealionicmjaaDoor
