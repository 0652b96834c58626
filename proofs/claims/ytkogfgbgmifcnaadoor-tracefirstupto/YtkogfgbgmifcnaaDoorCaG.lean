/-
  Regions that draw their order, taken in place: takes, calls, loads, stores, as laws; no condition.
-/
import Derived.Test.YtkogfgbgmifcnaaDoorTcB
import Derived.OrdersHeld
namespace Go.Proofs.YtkogfgbgmifcnaaDoor
open Go.RowKit
set_option linter.unusedVariables false
set_option linter.unusedSimpArgs false
/-- A region's end that is no panic. -/
def Plain (N : Act → World → Prop) : Exit → Act → World → Prop := fun e a w => e = .normal ∧ N a w
theorem reg_in {id : Nat} {ops : Array Oper} {Q : Exit → Act → World → Prop} {a : Act} {X : World} (S : World → Prop)
    (h : wpAnyH Tryd.prog .any ops (Plain (fun a w => Q .normal a w)) S ops.size (Array.replicate ops.size false) a X.drew) : (Code.region id ops true).wp Tryd.prog Q a X := by
  refine wp_mono (Q := Plain (fun a w => Q .normal a w)) ?_ (fun e a w h => by obtain ⟨rfl, h2⟩ := h; exact h2)
  exact wp_region_held (S := S) (by kernel_rfl) h
theorem tk {ops : Array Oper} {N : Act → World → Prop} {S : World → Prop} {fuel : Nat} {listed : Array Bool} {a : Act} {w : World} (i : Nat) (d : Option Tmp) {oi : Oper} (v : Value) (hi : ops[i]? = some oi) (hdst : oi.dst = d) (hy : YieldsIf Tryd.prog ops S oi v a)
    (hd : (Region.noSelect ops && Region.free .any ops listed i && (Region.ready .any ops listed).contains i) = true) (hS : S w)
    (h : wpAnyH Tryd.prog .any ops (Plain N) S fuel (listed.setIfInBounds i true) (a.put d v) w) : wpAnyH Tryd.prog .any ops (Plain N) S (fuel + 1) listed a w := by
  subst hdst
  simp only [Bool.and_eq_true] at hd
  exact wpAnyH_take hi hd.1.1 hd.1.2 hd.2 (fun _ _ _ h => absurd h.1 (by simp)) hy hS h
/-- A part of a function's code, by its place. -/
def kid : Code → Nat → Code
  | .seq a b, i => if i = 0 then a else b
  | .cond _ a b, i => if i = 0 then a else b
  | .block _ b, _ => b
  | .loop b, _ => b
  | .scope b, _ => b
  | c, _ => c
def nav (c : Code) : List Nat → Code
  | [] => c
  | i :: p => nav (kid c i) p
def sub (f : Func) (p : List Nat) : Code := nav (f.body.getD .skip) p
theorem plain_end {N : Act → World → Prop} {a : Act} {w : World} (h : N a w) : Plain N .normal a w := ⟨rfl, h⟩
end Go.Proofs.YtkogfgbgmifcnaaDoor
