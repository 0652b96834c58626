/-
  NARROWER THAN 'FOR EVERY INPUT', by the rows' own cells (each row's printed sentence says how): InterpRuns: laid · InterpSteps: laid · InterpFrames: laid · InterpAsks: laid · InterpNone: laid.
  DERIVED. THE GIVEN ROWS OF THIS SEAT. 5 by the template 'for every input the law returns true; each argument reads behind the call as it read before'; 0 by the template 'total and deterministic' (their statements: YtkjkpkmmojchiaaGreatDoorTotals.lean).
  GIVEN WITH THE SEED: the statements are not yours to turn. If you find one false, say at which input.
  Laid BY PROGRAM, IN A SANDBOX (cutbox-rows.mjs): the forced cells as the released guide's own fill.sh prints them over the translation 7ca0256f40ebc79e… (all of the seat's roots in one cut). By AI agents, Wed Nov 11 2026. No macro, syntax, notation, axiom, sorry.
-/
import Derived.Test.YtkjkpkmmojchiaaGreatDoorChecked
import GoSem.Claim
import GoSem.ClaimJoined
import GoSem.ClaimMapViews
import Derived.JoinedTies
import Derived.KernelRfl
namespace Go.Proofs.YtkjkpkmmojchiaaGreatDoor
/- THE CELL 'sum', in the pinned program and in every row, IS THE sha256 OF THE DUMP (.gsa) THAT YtkjkpkmmojchiaaGreatDoorProg.lean LOADS. Nothing in Lean hashes anything: it is a label: what it is worth is what the hold of that sum in a sandbox is worth. -/
noncomputable def Tryz.pinned : Pinned := { name := "ytkjkpkmmojchiaagreatdoor", sum := "7ca0256f40ebc79ec785caf3ab0ae1dc39eca8589c40ac3b736fd0a8ffede390", checked := Tryz.checked }
namespace Rows
def none {H : Type} : Left H := { results := [], args := [] }

/- WHAT THE LISTED PACKAGE-LEVEL VARIABLES READ AS WHEN THE CALL BEGINS. Each datum BY PROGRAM (the guide's laid-datum.mjs) off the statement by which the dump's own 'gosem.cut.vars' lays the variable. In a bare row this is a premise. The card (YtkjkpkmmojchiaaGreatDoorCards.lean) ties it to the program's text. -/
def laid_swath_ir_fields {H : Type} : DataW H := .agg [.lit (.string []), .lit (.string [65, 75]), .lit (.string [65]), .lit (.string [65, 66]), .lit (.string [65, 66, 67, 75]), .lit (.string [65, 66, 75]), .lit (.string [65, 66, 67]), .lit (.string [65, 66, 67]), .lit (.string [65, 66, 99, 75]), .lit (.string [65, 66, 99, 75]), .lit (.string [65, 66, 67]), .lit (.string [65, 66, 67]), .lit (.string [65, 66]), .lit (.string [65, 99, 75]), .lit (.string [65, 66]), .lit (.string [65]), .lit (.string [65]), .lit (.string [65, 66]), .lit (.string [65]), .lit (.string [65]), .lit (.string [65]), .lit (.string [75]), .lit (.string [65, 75]), .lit (.string [65, 75, 76]), .lit (.string [65]), .lit (.string [65]), .lit (.string []), .lit (.string [75, 76]), .lit (.string [65, 66])]

/-- 'swathlaw13.InterpRuns': WHATEVER THE INPUT: true; the input reads as it did. -/
def interpRunsSpec : ChangeSpec := { name := "interpRuns", fn := fun _ => fun
  | [d1, d2, d3, d4] => { results := [.lit (.bool true)], args := [d1, d2, d3, d4] }
  | _ => none }
def interpRunsRow : OpenClaim := { program := "ytkjkpkmmojchiaagreatdoor", sum := "7ca0256f40ebc79ec785caf3ab0ae1dc39eca8589c40ac3b736fd0a8ffede390", func := "swath/swathlaw13.InterpRuns", spec := "interpRuns", unfollowed := true, recurses := true, named := ["swath/ir.fields"], apart := false, laid := [("swath/ir.fields", laid_swath_ir_fields)] }
def InterpRunsSaid : Prop := interpRunsRow.holds Tryz.pinned (OpenSpec.ofChange interpRunsSpec)

/-- ITS FALSE NEIGHBOUR: 'it returns false'. Refute it at one input. -/
def interpRunsWrong : ChangeSpec := { name := "interpRuns", fn := fun _ => fun
  | [d1, d2, d3, d4] => { results := [.lit (.bool false)], args := [d1, d2, d3, d4] }
  | _ => none }
def InterpRunsWrongFalsely : Prop := interpRunsRow.holds Tryz.pinned (OpenSpec.ofChange interpRunsWrong)

/-- 'swathlaw13.InterpSteps': WHATEVER THE INPUT: true; the input reads as it did. -/
def interpStepsSpec : ChangeSpec := { name := "interpSteps", fn := fun _ => fun
  | [d1, d2, d3, d4, d5] => { results := [.lit (.bool true)], args := [d1, d2, d3, d4, d5] }
  | _ => none }
def interpStepsRow : OpenClaim := { program := "ytkjkpkmmojchiaagreatdoor", sum := "7ca0256f40ebc79ec785caf3ab0ae1dc39eca8589c40ac3b736fd0a8ffede390", func := "swath/swathlaw13.InterpSteps", spec := "interpSteps", unfollowed := true, recurses := true, named := ["swath/ir.fields"], apart := false, laid := [("swath/ir.fields", laid_swath_ir_fields)] }
def InterpStepsSaid : Prop := interpStepsRow.holds Tryz.pinned (OpenSpec.ofChange interpStepsSpec)

/-- ITS FALSE NEIGHBOUR: 'it returns false'. Refute it at one input. -/
def interpStepsWrong : ChangeSpec := { name := "interpSteps", fn := fun _ => fun
  | [d1, d2, d3, d4, d5] => { results := [.lit (.bool false)], args := [d1, d2, d3, d4, d5] }
  | _ => none }
def InterpStepsWrongFalsely : Prop := interpStepsRow.holds Tryz.pinned (OpenSpec.ofChange interpStepsWrong)

/-- 'swathlaw13.InterpFrames': WHATEVER THE INPUT: true; the input reads as it did. -/
def interpFramesSpec : ChangeSpec := { name := "interpFrames", fn := fun _ => fun
  | [d1, d2, d3, d4, d5, d6] => { results := [.lit (.bool true)], args := [d1, d2, d3, d4, d5, d6] }
  | _ => none }
def interpFramesRow : OpenClaim := { program := "ytkjkpkmmojchiaagreatdoor", sum := "7ca0256f40ebc79ec785caf3ab0ae1dc39eca8589c40ac3b736fd0a8ffede390", func := "swath/swathlaw13.InterpFrames", spec := "interpFrames", unfollowed := true, recurses := true, named := ["swath/ir.fields"], apart := false, laid := [("swath/ir.fields", laid_swath_ir_fields)] }
def InterpFramesSaid : Prop := interpFramesRow.holds Tryz.pinned (OpenSpec.ofChange interpFramesSpec)

/-- ITS FALSE NEIGHBOUR: 'it returns false'. Refute it at one input. -/
def interpFramesWrong : ChangeSpec := { name := "interpFrames", fn := fun _ => fun
  | [d1, d2, d3, d4, d5, d6] => { results := [.lit (.bool false)], args := [d1, d2, d3, d4, d5, d6] }
  | _ => none }
def InterpFramesWrongFalsely : Prop := interpFramesRow.holds Tryz.pinned (OpenSpec.ofChange interpFramesWrong)

/-- 'swathlaw13.InterpAsks': WHATEVER THE INPUT: true; the input reads as it did. -/
def interpAsksSpec : ChangeSpec := { name := "interpAsks", fn := fun _ => fun
  | [d1, d2, d3, d4, d5, d6] => { results := [.lit (.bool true)], args := [d1, d2, d3, d4, d5, d6] }
  | _ => none }
def interpAsksRow : OpenClaim := { program := "ytkjkpkmmojchiaagreatdoor", sum := "7ca0256f40ebc79ec785caf3ab0ae1dc39eca8589c40ac3b736fd0a8ffede390", func := "swath/swathlaw13.InterpAsks", spec := "interpAsks", unfollowed := true, recurses := true, named := ["swath/ir.fields"], apart := false, laid := [("swath/ir.fields", laid_swath_ir_fields)] }
def InterpAsksSaid : Prop := interpAsksRow.holds Tryz.pinned (OpenSpec.ofChange interpAsksSpec)

/-- ITS FALSE NEIGHBOUR: 'it returns false'. Refute it at one input. -/
def interpAsksWrong : ChangeSpec := { name := "interpAsks", fn := fun _ => fun
  | [d1, d2, d3, d4, d5, d6] => { results := [.lit (.bool false)], args := [d1, d2, d3, d4, d5, d6] }
  | _ => none }
def InterpAsksWrongFalsely : Prop := interpAsksRow.holds Tryz.pinned (OpenSpec.ofChange interpAsksWrong)

/-- 'swathlaw13.InterpNone': WHATEVER THE INPUT: true; the input reads as it did. -/
def interpNoneSpec : ChangeSpec := { name := "interpNone", fn := fun _ => fun
  | [d1, d2, d3] => { results := [.lit (.bool true)], args := [d1, d2, d3] }
  | _ => none }
def interpNoneRow : OpenClaim := { program := "ytkjkpkmmojchiaagreatdoor", sum := "7ca0256f40ebc79ec785caf3ab0ae1dc39eca8589c40ac3b736fd0a8ffede390", func := "swath/swathlaw13.InterpNone", spec := "interpNone", unfollowed := true, recurses := true, named := ["swath/ir.fields"], apart := false, laid := [("swath/ir.fields", laid_swath_ir_fields)] }
def InterpNoneSaid : Prop := interpNoneRow.holds Tryz.pinned (OpenSpec.ofChange interpNoneSpec)

/-- ITS FALSE NEIGHBOUR: 'it returns false'. Refute it at one input. -/
def interpNoneWrong : ChangeSpec := { name := "interpNone", fn := fun _ => fun
  | [d1, d2, d3] => { results := [.lit (.bool false)], args := [d1, d2, d3] }
  | _ => none }
def InterpNoneWrongFalsely : Prop := interpNoneRow.holds Tryz.pinned (OpenSpec.ofChange interpNoneWrong)

/- THE SECOND FORM. 'bulk': how many values and letters a reading holds, each counted each time it is reached (what is shared counts as often as it is met; a slice's spare places count too). A statement '..UptoSaid' is the law's where the arguments, and the package variables that the reading takes, are together of bulk at most 1048576: NARROWER than '..Said'. Prove '..Said' where nothing that the law and all that it calls make is longer than what came in: it says more and counts as full. Else prove '..UptoSaid'. A law counts once. -/
mutual
def uptoBulk {H : Type} : DataW H → Nat
  | .lit (.string bytes) => bytes.length + 1
  | .lit _ => 1
  | .nil => 1
  | .ptr d => uptoBulk d + 1
  | .slice elems spare => uptoBulkAll elems + uptoBulkAll spare + 1
  | .agg parts => uptoBulkAll parts + 1
  | .iface _ d => uptoBulk d + 1
  | .map entries => uptoBulkEntries entries + 1
  | .held _ => 1
def uptoBulkAll {H : Type} : List (DataW H) → Nat
  | [] => 0
  | d :: r => uptoBulk d + uptoBulkAll r
def uptoBulkEntries {H : Type} : List (Lit × DataW H) → Nat
  | [] => 0
  | x :: r => uptoBulkEntry x + uptoBulkEntries r
def uptoBulkEntry {H : Type} : Lit × DataW H → Nat
  | (.string bytes, d) => bytes.length + uptoBulk d + 1
  | (_, d) => uptoBulk d + 1
 end
def uptoSmall : (H : Type) → List (DataW H) → Bool := fun _ ds => decide (uptoBulkAll ds ≤ 1048576)
def OpenSpec.upto (s : _root_.Go.ChangeSpec) : _root_.Go.OpenSpec := { _root_.Go.OpenSpec.ofChange s with cond := some uptoSmall }

/-- 'swathlaw13.InterpRuns', WHERE WHAT IT READS IS OF BULK AT MOST 1048576: true; the input reads as it did. -/
def interpRunsUptoRow : OpenClaim := { program := "ytkjkpkmmojchiaagreatdoor", sum := "7ca0256f40ebc79ec785caf3ab0ae1dc39eca8589c40ac3b736fd0a8ffede390", func := "swath/swathlaw13.InterpRuns", spec := "interpRuns", unfollowed := true, recurses := true, named := ["swath/ir.fields"], apart := false, laid := [("swath/ir.fields", laid_swath_ir_fields)], narrowed := true }
def InterpRunsUptoSaid : Prop := interpRunsUptoRow.holds Tryz.pinned (OpenSpec.upto interpRunsSpec)

/-- 'swathlaw13.InterpSteps', WHERE WHAT IT READS IS OF BULK AT MOST 1048576: true; the input reads as it did. -/
def interpStepsUptoRow : OpenClaim := { program := "ytkjkpkmmojchiaagreatdoor", sum := "7ca0256f40ebc79ec785caf3ab0ae1dc39eca8589c40ac3b736fd0a8ffede390", func := "swath/swathlaw13.InterpSteps", spec := "interpSteps", unfollowed := true, recurses := true, named := ["swath/ir.fields"], apart := false, laid := [("swath/ir.fields", laid_swath_ir_fields)], narrowed := true }
def InterpStepsUptoSaid : Prop := interpStepsUptoRow.holds Tryz.pinned (OpenSpec.upto interpStepsSpec)

/-- 'swathlaw13.InterpFrames', WHERE WHAT IT READS IS OF BULK AT MOST 1048576: true; the input reads as it did. -/
def interpFramesUptoRow : OpenClaim := { program := "ytkjkpkmmojchiaagreatdoor", sum := "7ca0256f40ebc79ec785caf3ab0ae1dc39eca8589c40ac3b736fd0a8ffede390", func := "swath/swathlaw13.InterpFrames", spec := "interpFrames", unfollowed := true, recurses := true, named := ["swath/ir.fields"], apart := false, laid := [("swath/ir.fields", laid_swath_ir_fields)], narrowed := true }
def InterpFramesUptoSaid : Prop := interpFramesUptoRow.holds Tryz.pinned (OpenSpec.upto interpFramesSpec)

/-- 'swathlaw13.InterpAsks', WHERE WHAT IT READS IS OF BULK AT MOST 1048576: true; the input reads as it did. -/
def interpAsksUptoRow : OpenClaim := { program := "ytkjkpkmmojchiaagreatdoor", sum := "7ca0256f40ebc79ec785caf3ab0ae1dc39eca8589c40ac3b736fd0a8ffede390", func := "swath/swathlaw13.InterpAsks", spec := "interpAsks", unfollowed := true, recurses := true, named := ["swath/ir.fields"], apart := false, laid := [("swath/ir.fields", laid_swath_ir_fields)], narrowed := true }
def InterpAsksUptoSaid : Prop := interpAsksUptoRow.holds Tryz.pinned (OpenSpec.upto interpAsksSpec)

/-- 'swathlaw13.InterpNone', WHERE WHAT IT READS IS OF BULK AT MOST 1048576: true; the input reads as it did. -/
def interpNoneUptoRow : OpenClaim := { program := "ytkjkpkmmojchiaagreatdoor", sum := "7ca0256f40ebc79ec785caf3ab0ae1dc39eca8589c40ac3b736fd0a8ffede390", func := "swath/swathlaw13.InterpNone", spec := "interpNone", unfollowed := true, recurses := true, named := ["swath/ir.fields"], apart := false, laid := [("swath/ir.fields", laid_swath_ir_fields)], narrowed := true }
def InterpNoneUptoSaid : Prop := interpNoneUptoRow.holds Tryz.pinned (OpenSpec.upto interpNoneSpec)

end Rows
end Go.Proofs.YtkjkpkmmojchiaaGreatDoor
