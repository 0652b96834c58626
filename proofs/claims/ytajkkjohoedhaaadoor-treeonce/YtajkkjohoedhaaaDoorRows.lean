/-
  NARROWER THAN 'FOR EVERY INPUT', by the rows' own cells (each row's printed sentence says how): TreeChecks: laid · TreeDeep: laid · TreeWalks: laid · TreeSame: laid · TreeOnce: laid · TreeParents: laid.
  DERIVED. THE GIVEN ROWS OF THIS SEAT. 6 by the template 'for every input the law returns true; each argument reads behind the call as it read before'; 0 by the template 'total and deterministic' (their statements: YtajkkjohoedhaaaDoorTotals.lean).
  GIVEN WITH THE SEED: the statements are not yours to turn. If you find one false, say at which input.
  Laid BY PROGRAM, IN A SANDBOX (cutbox-rows.mjs): the forced cells as the released guide's own fill.sh prints them over the translation 94f60c882b4d9e1a… (all of the seat's roots in one cut). By AI agents, Wed Nov 11 2026. No macro, syntax, notation, axiom, sorry.
-/
import Derived.Test.YtajkkjohoedhaaaDoorChecked
import GoSem.PinnedTables
import GoSem.Claim
import GoSem.ClaimJoined
import GoSem.ClaimMapViews
import Derived.JoinedTies
import Derived.KernelRfl
namespace Go.Proofs.YtajkkjohoedhaaaDoor
/- THE CELL 'sum', in the pinned program and in every row, IS THE sha256 OF THE DUMP (.gsa) THAT YtajkkjohoedhaaaDoorProg.lean LOADS. Nothing in Lean hashes anything: it is a label: what it is worth is what the hold of that sum in a sandbox is worth. -/
noncomputable def Tryd.pinned : Pinned := { name := "ytajkkjohoedhaaadoor", sum := "94f60c882b4d9e1a239b7a1b59e868530aa513999736d852a2552514fb29eb4e", checked := Tryd.checked }
namespace Rows
def none {H : Type} : Left H := { results := [], args := [] }

/- WHAT THE LISTED PACKAGE-LEVEL VARIABLES READ AS WHEN THE CALL BEGINS. Each datum BY PROGRAM (the guide's laid-datum.mjs) off the statement by which the dump's own 'gosem.cut.vars' lays the variable. In a bare row this is a premise. The card (YtajkkjohoedhaaaDoorCards.lean) ties it to the program's text. -/
def laid_swath_lex_kinds {H : Type} : DataW H := .agg [.lit (.int .u8 0), .lit (.int .u8 0), .lit (.int .u8 0), .lit (.int .u8 0), .lit (.int .u8 0), .lit (.int .u8 0), .lit (.int .u8 0), .lit (.int .u8 0), .lit (.int .u8 0), .lit (.int .u8 1), .lit (.int .u8 1), .lit (.int .u8 0), .lit (.int .u8 0), .lit (.int .u8 1), .lit (.int .u8 0), .lit (.int .u8 0), .lit (.int .u8 0), .lit (.int .u8 0), .lit (.int .u8 0), .lit (.int .u8 0), .lit (.int .u8 0), .lit (.int .u8 0), .lit (.int .u8 0), .lit (.int .u8 0), .lit (.int .u8 0), .lit (.int .u8 0), .lit (.int .u8 0), .lit (.int .u8 0), .lit (.int .u8 0), .lit (.int .u8 0), .lit (.int .u8 0), .lit (.int .u8 0), .lit (.int .u8 1), .lit (.int .u8 0), .lit (.int .u8 0), .lit (.int .u8 0), .lit (.int .u8 0), .lit (.int .u8 0), .lit (.int .u8 0), .lit (.int .u8 4), .lit (.int .u8 0), .lit (.int .u8 0), .lit (.int .u8 0), .lit (.int .u8 0), .lit (.int .u8 0), .lit (.int .u8 0), .lit (.int .u8 0), .lit (.int .u8 0), .lit (.int .u8 3), .lit (.int .u8 3), .lit (.int .u8 3), .lit (.int .u8 3), .lit (.int .u8 3), .lit (.int .u8 3), .lit (.int .u8 3), .lit (.int .u8 3), .lit (.int .u8 3), .lit (.int .u8 3), .lit (.int .u8 0), .lit (.int .u8 0), .lit (.int .u8 0), .lit (.int .u8 0), .lit (.int .u8 0), .lit (.int .u8 0), .lit (.int .u8 0), .lit (.int .u8 2), .lit (.int .u8 2), .lit (.int .u8 2), .lit (.int .u8 2), .lit (.int .u8 2), .lit (.int .u8 2), .lit (.int .u8 2), .lit (.int .u8 2), .lit (.int .u8 2), .lit (.int .u8 2), .lit (.int .u8 2), .lit (.int .u8 2), .lit (.int .u8 2), .lit (.int .u8 2), .lit (.int .u8 2), .lit (.int .u8 2), .lit (.int .u8 2), .lit (.int .u8 2), .lit (.int .u8 2), .lit (.int .u8 2), .lit (.int .u8 2), .lit (.int .u8 2), .lit (.int .u8 2), .lit (.int .u8 2), .lit (.int .u8 2), .lit (.int .u8 2), .lit (.int .u8 0), .lit (.int .u8 0), .lit (.int .u8 0), .lit (.int .u8 0), .lit (.int .u8 2), .lit (.int .u8 0), .lit (.int .u8 2), .lit (.int .u8 2), .lit (.int .u8 2), .lit (.int .u8 2), .lit (.int .u8 2), .lit (.int .u8 2), .lit (.int .u8 2), .lit (.int .u8 2), .lit (.int .u8 2), .lit (.int .u8 2), .lit (.int .u8 2), .lit (.int .u8 2), .lit (.int .u8 2), .lit (.int .u8 2), .lit (.int .u8 2), .lit (.int .u8 2), .lit (.int .u8 2), .lit (.int .u8 2), .lit (.int .u8 2), .lit (.int .u8 2), .lit (.int .u8 2), .lit (.int .u8 2), .lit (.int .u8 2), .lit (.int .u8 2), .lit (.int .u8 2), .lit (.int .u8 2), .lit (.int .u8 0), .lit (.int .u8 0), .lit (.int .u8 0), .lit (.int .u8 0), .lit (.int .u8 0)]
/-- One of Go's own tables, pinned by name: the form's constant. -/
def laid_unicode_CaseRanges : DataW Unit := Go.Pinned.caseRanges

/-- 'swathlaw05.TreeChecks': WHATEVER THE INPUT: true; the input reads as it did. -/
def treeChecksSpec : ChangeSpec := { name := "treeChecks", fn := fun _ => fun
  | [d] => { results := [.lit (.bool true)], args := [d] }
  | _ => none }
def treeChecksRow : OpenClaim := { program := "ytajkkjohoedhaaadoor", sum := "94f60c882b4d9e1a239b7a1b59e868530aa513999736d852a2552514fb29eb4e", func := "swath/swathlaw05.TreeChecks", spec := "treeChecks", unfollowed := true, recurses := true, named := ["swath/lex.kinds", "unicode.CaseRanges"], apart := false, laid := [("swath/lex.kinds", laid_swath_lex_kinds), ("unicode.CaseRanges", laid_unicode_CaseRanges)] }
def TreeChecksSaid : Prop := treeChecksRow.holds Tryd.pinned (OpenSpec.ofChange treeChecksSpec)

/-- ITS FALSE NEIGHBOUR: 'it returns false'. Refute it at one input. -/
def treeChecksWrong : ChangeSpec := { name := "treeChecks", fn := fun _ => fun
  | [d] => { results := [.lit (.bool false)], args := [d] }
  | _ => none }
def TreeChecksWrongFalsely : Prop := treeChecksRow.holds Tryd.pinned (OpenSpec.ofChange treeChecksWrong)

/-- 'swathlaw05.TreeDeep': WHATEVER THE INPUT: true; the input reads as it did. -/
def treeDeepSpec : ChangeSpec := { name := "treeDeep", fn := fun _ => fun
  | [d] => { results := [.lit (.bool true)], args := [d] }
  | _ => none }
def treeDeepRow : OpenClaim := { program := "ytajkkjohoedhaaadoor", sum := "94f60c882b4d9e1a239b7a1b59e868530aa513999736d852a2552514fb29eb4e", func := "swath/swathlaw05.TreeDeep", spec := "treeDeep", unfollowed := true, recurses := true, named := ["swath/lex.kinds", "unicode.CaseRanges"], apart := false, laid := [("swath/lex.kinds", laid_swath_lex_kinds), ("unicode.CaseRanges", laid_unicode_CaseRanges)] }
def TreeDeepSaid : Prop := treeDeepRow.holds Tryd.pinned (OpenSpec.ofChange treeDeepSpec)

/-- ITS FALSE NEIGHBOUR: 'it returns false'. Refute it at one input. -/
def treeDeepWrong : ChangeSpec := { name := "treeDeep", fn := fun _ => fun
  | [d] => { results := [.lit (.bool false)], args := [d] }
  | _ => none }
def TreeDeepWrongFalsely : Prop := treeDeepRow.holds Tryd.pinned (OpenSpec.ofChange treeDeepWrong)

/-- 'swathlaw05.TreeWalks': WHATEVER THE INPUT: true; the input reads as it did. -/
def treeWalksSpec : ChangeSpec := { name := "treeWalks", fn := fun _ => fun
  | [d] => { results := [.lit (.bool true)], args := [d] }
  | _ => none }
def treeWalksRow : OpenClaim := { program := "ytajkkjohoedhaaadoor", sum := "94f60c882b4d9e1a239b7a1b59e868530aa513999736d852a2552514fb29eb4e", func := "swath/swathlaw05.TreeWalks", spec := "treeWalks", unfollowed := true, recurses := true, named := ["swath/lex.kinds", "unicode.CaseRanges"], apart := false, laid := [("swath/lex.kinds", laid_swath_lex_kinds), ("unicode.CaseRanges", laid_unicode_CaseRanges)] }
def TreeWalksSaid : Prop := treeWalksRow.holds Tryd.pinned (OpenSpec.ofChange treeWalksSpec)

/-- ITS FALSE NEIGHBOUR: 'it returns false'. Refute it at one input. -/
def treeWalksWrong : ChangeSpec := { name := "treeWalks", fn := fun _ => fun
  | [d] => { results := [.lit (.bool false)], args := [d] }
  | _ => none }
def TreeWalksWrongFalsely : Prop := treeWalksRow.holds Tryd.pinned (OpenSpec.ofChange treeWalksWrong)

/-- 'swathlaw05.TreeSame': WHATEVER THE INPUT: true; the input reads as it did. -/
def treeSameSpec : ChangeSpec := { name := "treeSame", fn := fun _ => fun
  | [d1, d2] => { results := [.lit (.bool true)], args := [d1, d2] }
  | _ => none }
def treeSameRow : OpenClaim := { program := "ytajkkjohoedhaaadoor", sum := "94f60c882b4d9e1a239b7a1b59e868530aa513999736d852a2552514fb29eb4e", func := "swath/swathlaw05.TreeSame", spec := "treeSame", unfollowed := true, recurses := true, named := ["swath/lex.kinds", "unicode.CaseRanges"], apart := false, laid := [("swath/lex.kinds", laid_swath_lex_kinds), ("unicode.CaseRanges", laid_unicode_CaseRanges)] }
def TreeSameSaid : Prop := treeSameRow.holds Tryd.pinned (OpenSpec.ofChange treeSameSpec)

/-- ITS FALSE NEIGHBOUR: 'it returns false'. Refute it at one input. -/
def treeSameWrong : ChangeSpec := { name := "treeSame", fn := fun _ => fun
  | [d1, d2] => { results := [.lit (.bool false)], args := [d1, d2] }
  | _ => none }
def TreeSameWrongFalsely : Prop := treeSameRow.holds Tryd.pinned (OpenSpec.ofChange treeSameWrong)

/-- 'swathlaw05.TreeOnce': WHATEVER THE INPUT: true; the input reads as it did. -/
def treeOnceSpec : ChangeSpec := { name := "treeOnce", fn := fun _ => fun
  | [d] => { results := [.lit (.bool true)], args := [d] }
  | _ => none }
def treeOnceRow : OpenClaim := { program := "ytajkkjohoedhaaadoor", sum := "94f60c882b4d9e1a239b7a1b59e868530aa513999736d852a2552514fb29eb4e", func := "swath/swathlaw05.TreeOnce", spec := "treeOnce", unfollowed := true, recurses := true, named := ["swath/lex.kinds", "unicode.CaseRanges"], apart := false, laid := [("swath/lex.kinds", laid_swath_lex_kinds), ("unicode.CaseRanges", laid_unicode_CaseRanges)] }
def TreeOnceSaid : Prop := treeOnceRow.holds Tryd.pinned (OpenSpec.ofChange treeOnceSpec)

/-- ITS FALSE NEIGHBOUR: 'it returns false'. Refute it at one input. -/
def treeOnceWrong : ChangeSpec := { name := "treeOnce", fn := fun _ => fun
  | [d] => { results := [.lit (.bool false)], args := [d] }
  | _ => none }
def TreeOnceWrongFalsely : Prop := treeOnceRow.holds Tryd.pinned (OpenSpec.ofChange treeOnceWrong)

/-- 'swathlaw05.TreeParents': WHATEVER THE INPUT: true; the input reads as it did. -/
def treeParentsSpec : ChangeSpec := { name := "treeParents", fn := fun _ => fun
  | [d] => { results := [.lit (.bool true)], args := [d] }
  | _ => none }
def treeParentsRow : OpenClaim := { program := "ytajkkjohoedhaaadoor", sum := "94f60c882b4d9e1a239b7a1b59e868530aa513999736d852a2552514fb29eb4e", func := "swath/swathlaw05.TreeParents", spec := "treeParents", unfollowed := true, recurses := true, named := ["swath/lex.kinds", "unicode.CaseRanges"], apart := false, laid := [("swath/lex.kinds", laid_swath_lex_kinds), ("unicode.CaseRanges", laid_unicode_CaseRanges)] }
def TreeParentsSaid : Prop := treeParentsRow.holds Tryd.pinned (OpenSpec.ofChange treeParentsSpec)

/-- ITS FALSE NEIGHBOUR: 'it returns false'. Refute it at one input. -/
def treeParentsWrong : ChangeSpec := { name := "treeParents", fn := fun _ => fun
  | [d] => { results := [.lit (.bool false)], args := [d] }
  | _ => none }
def TreeParentsWrongFalsely : Prop := treeParentsRow.holds Tryd.pinned (OpenSpec.ofChange treeParentsWrong)

/- THE SECOND FORM. 'bulk': how many values and letters a reading holds, each counted each time it is reached (what is shared counts as often as it is met; a slice's spare places count too). A statement '..UptoSaid' is the law's where the arguments, and the package variables that the reading takes, are together of bulk at most 1048576: NARROWER than '..Said'. Prove '..Said' where nothing that the law and all that it calls make is longer than what came in: it says more and counts as full. Else prove '..UptoSaid'. A law counts once. -/
mutual
def uptoBulk {H : Type} : DataW H → Nat
  | .lit (.string bytes) => bytes.length + 1
  | .lit _ => 1
  | .nil => 1
  | .ptr d => uptoBulk d + 1
  | .slice elems spare => uptoBulkAll elems + uptoBulkAll spare + 1
  | .agg parts => uptoBulkAll parts + 1
  | .iface _ d => uptoBulk d + 1
  | .map entries => uptoBulkEntries entries + 1
  | .held _ => 1
def uptoBulkAll {H : Type} : List (DataW H) → Nat
  | [] => 0
  | d :: r => uptoBulk d + uptoBulkAll r
def uptoBulkEntries {H : Type} : List (Lit × DataW H) → Nat
  | [] => 0
  | x :: r => uptoBulkEntry x + uptoBulkEntries r
def uptoBulkEntry {H : Type} : Lit × DataW H → Nat
  | (.string bytes, d) => bytes.length + uptoBulk d + 1
  | (_, d) => uptoBulk d + 1
 end
def uptoSmall : (H : Type) → List (DataW H) → Bool := fun _ ds => decide (uptoBulkAll ds ≤ 1048576)
def OpenSpec.upto (s : _root_.Go.ChangeSpec) : _root_.Go.OpenSpec := { _root_.Go.OpenSpec.ofChange s with cond := some uptoSmall }

/-- 'swathlaw05.TreeChecks', WHERE WHAT IT READS IS OF BULK AT MOST 1048576: true; the input reads as it did. -/
def treeChecksUptoRow : OpenClaim := { program := "ytajkkjohoedhaaadoor", sum := "94f60c882b4d9e1a239b7a1b59e868530aa513999736d852a2552514fb29eb4e", func := "swath/swathlaw05.TreeChecks", spec := "treeChecks", unfollowed := true, recurses := true, named := ["swath/lex.kinds", "unicode.CaseRanges"], apart := false, laid := [("swath/lex.kinds", laid_swath_lex_kinds), ("unicode.CaseRanges", laid_unicode_CaseRanges)], narrowed := true }
def TreeChecksUptoSaid : Prop := treeChecksUptoRow.holds Tryd.pinned (OpenSpec.upto treeChecksSpec)

/-- 'swathlaw05.TreeDeep', WHERE WHAT IT READS IS OF BULK AT MOST 1048576: true; the input reads as it did. -/
def treeDeepUptoRow : OpenClaim := { program := "ytajkkjohoedhaaadoor", sum := "94f60c882b4d9e1a239b7a1b59e868530aa513999736d852a2552514fb29eb4e", func := "swath/swathlaw05.TreeDeep", spec := "treeDeep", unfollowed := true, recurses := true, named := ["swath/lex.kinds", "unicode.CaseRanges"], apart := false, laid := [("swath/lex.kinds", laid_swath_lex_kinds), ("unicode.CaseRanges", laid_unicode_CaseRanges)], narrowed := true }
def TreeDeepUptoSaid : Prop := treeDeepUptoRow.holds Tryd.pinned (OpenSpec.upto treeDeepSpec)

/-- 'swathlaw05.TreeWalks', WHERE WHAT IT READS IS OF BULK AT MOST 1048576: true; the input reads as it did. -/
def treeWalksUptoRow : OpenClaim := { program := "ytajkkjohoedhaaadoor", sum := "94f60c882b4d9e1a239b7a1b59e868530aa513999736d852a2552514fb29eb4e", func := "swath/swathlaw05.TreeWalks", spec := "treeWalks", unfollowed := true, recurses := true, named := ["swath/lex.kinds", "unicode.CaseRanges"], apart := false, laid := [("swath/lex.kinds", laid_swath_lex_kinds), ("unicode.CaseRanges", laid_unicode_CaseRanges)], narrowed := true }
def TreeWalksUptoSaid : Prop := treeWalksUptoRow.holds Tryd.pinned (OpenSpec.upto treeWalksSpec)

/-- 'swathlaw05.TreeSame', WHERE WHAT IT READS IS OF BULK AT MOST 1048576: true; the input reads as it did. -/
def treeSameUptoRow : OpenClaim := { program := "ytajkkjohoedhaaadoor", sum := "94f60c882b4d9e1a239b7a1b59e868530aa513999736d852a2552514fb29eb4e", func := "swath/swathlaw05.TreeSame", spec := "treeSame", unfollowed := true, recurses := true, named := ["swath/lex.kinds", "unicode.CaseRanges"], apart := false, laid := [("swath/lex.kinds", laid_swath_lex_kinds), ("unicode.CaseRanges", laid_unicode_CaseRanges)], narrowed := true }
def TreeSameUptoSaid : Prop := treeSameUptoRow.holds Tryd.pinned (OpenSpec.upto treeSameSpec)

/-- 'swathlaw05.TreeOnce', WHERE WHAT IT READS IS OF BULK AT MOST 1048576: true; the input reads as it did. -/
def treeOnceUptoRow : OpenClaim := { program := "ytajkkjohoedhaaadoor", sum := "94f60c882b4d9e1a239b7a1b59e868530aa513999736d852a2552514fb29eb4e", func := "swath/swathlaw05.TreeOnce", spec := "treeOnce", unfollowed := true, recurses := true, named := ["swath/lex.kinds", "unicode.CaseRanges"], apart := false, laid := [("swath/lex.kinds", laid_swath_lex_kinds), ("unicode.CaseRanges", laid_unicode_CaseRanges)], narrowed := true }
def TreeOnceUptoSaid : Prop := treeOnceUptoRow.holds Tryd.pinned (OpenSpec.upto treeOnceSpec)

/-- 'swathlaw05.TreeParents', WHERE WHAT IT READS IS OF BULK AT MOST 1048576: true; the input reads as it did. -/
def treeParentsUptoRow : OpenClaim := { program := "ytajkkjohoedhaaadoor", sum := "94f60c882b4d9e1a239b7a1b59e868530aa513999736d852a2552514fb29eb4e", func := "swath/swathlaw05.TreeParents", spec := "treeParents", unfollowed := true, recurses := true, named := ["swath/lex.kinds", "unicode.CaseRanges"], apart := false, laid := [("swath/lex.kinds", laid_swath_lex_kinds), ("unicode.CaseRanges", laid_unicode_CaseRanges)], narrowed := true }
def TreeParentsUptoSaid : Prop := treeParentsUptoRow.holds Tryd.pinned (OpenSpec.upto treeParentsSpec)

end Rows
end Go.Proofs.YtajkkjohoedhaaaDoor
