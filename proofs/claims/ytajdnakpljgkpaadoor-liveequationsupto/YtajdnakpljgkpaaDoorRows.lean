/-
  NARROWER THAN 'FOR EVERY INPUT', by the rows' own cells (each row's printed sentence says how): LiveTables: laid · LiveDead: laid · LiveEnough: laid · LiveEquations: laid.
  DERIVED. THE GIVEN ROWS OF THIS SEAT. 4 by the template 'for every input the law returns true; each argument reads behind the call as it read before'; 0 by the template 'total and deterministic' (their statements: YtajdnakpljgkpaaDoorTotals.lean).
  GIVEN WITH THE SEED: the statements are not yours to turn. If you find one false, say at which input.
  Laid BY PROGRAM, IN A SANDBOX (cutbox-rows.mjs): the forced cells as the released guide's own fill.sh prints them over the translation 2f2a10e258926d84… (all of the seat's roots in one cut). By AI agents, Wed Nov 11 2026. No macro, syntax, notation, axiom, sorry.
-/
import Derived.Test.YtajdnakpljgkpaaDoorChecked
import GoSem.Claim
import GoSem.ClaimJoined
import GoSem.ClaimMapViews
import Derived.JoinedTies
import Derived.KernelRfl
namespace Go.Proofs.YtajdnakpljgkpaaDoor
/- THE CELL 'sum', in the pinned program and in every row, IS THE sha256 OF THE DUMP (.gsa) THAT YtajdnakpljgkpaaDoorProg.lean LOADS. Nothing in Lean hashes anything: it is a label: what it is worth is what the hold of that sum in a sandbox is worth. -/
noncomputable def Tryd.pinned : Pinned := { name := "ytajdnakpljgkpaadoor", sum := "2f2a10e258926d8401d54da43a53a7bfa78fb06f42f5154ccf8ab5e536cf5579", checked := Tryd.checked }
namespace Rows
def none {H : Type} : Left H := { results := [], args := [] }

/- WHAT THE LISTED PACKAGE-LEVEL VARIABLES READ AS WHEN THE CALL BEGINS. Each datum BY PROGRAM (the guide's laid-datum.mjs) off the statement by which the dump's own 'gosem.cut.vars' lays the variable. In a bare row this is a premise. The card (YtajdnakpljgkpaaDoorCards.lean) ties it to the program's text. -/
def laid_math_bits_deBruijn64tab {H : Type} : DataW H := .agg [.lit (.int .u8 0), .lit (.int .u8 1), .lit (.int .u8 56), .lit (.int .u8 2), .lit (.int .u8 57), .lit (.int .u8 49), .lit (.int .u8 28), .lit (.int .u8 3), .lit (.int .u8 61), .lit (.int .u8 58), .lit (.int .u8 42), .lit (.int .u8 50), .lit (.int .u8 38), .lit (.int .u8 29), .lit (.int .u8 17), .lit (.int .u8 4), .lit (.int .u8 62), .lit (.int .u8 47), .lit (.int .u8 59), .lit (.int .u8 36), .lit (.int .u8 45), .lit (.int .u8 43), .lit (.int .u8 51), .lit (.int .u8 22), .lit (.int .u8 53), .lit (.int .u8 39), .lit (.int .u8 33), .lit (.int .u8 30), .lit (.int .u8 24), .lit (.int .u8 18), .lit (.int .u8 12), .lit (.int .u8 5), .lit (.int .u8 63), .lit (.int .u8 55), .lit (.int .u8 48), .lit (.int .u8 27), .lit (.int .u8 60), .lit (.int .u8 41), .lit (.int .u8 37), .lit (.int .u8 16), .lit (.int .u8 46), .lit (.int .u8 35), .lit (.int .u8 44), .lit (.int .u8 21), .lit (.int .u8 52), .lit (.int .u8 32), .lit (.int .u8 23), .lit (.int .u8 11), .lit (.int .u8 54), .lit (.int .u8 26), .lit (.int .u8 40), .lit (.int .u8 15), .lit (.int .u8 34), .lit (.int .u8 20), .lit (.int .u8 31), .lit (.int .u8 10), .lit (.int .u8 25), .lit (.int .u8 14), .lit (.int .u8 19), .lit (.int .u8 9), .lit (.int .u8 13), .lit (.int .u8 8), .lit (.int .u8 7), .lit (.int .u8 6)]
def laid_swath_ir_reads {H : Type} : DataW H := .agg [.lit (.string []), .lit (.string []), .lit (.string []), .lit (.string [66]), .lit (.string [66, 67]), .lit (.string [66]), .lit (.string [66, 67]), .lit (.string [66, 67]), .lit (.string [66]), .lit (.string [65, 66]), .lit (.string [66, 67]), .lit (.string [65, 66, 67]), .lit (.string [66]), .lit (.string []), .lit (.string [66]), .lit (.string []), .lit (.string [65]), .lit (.string [66]), .lit (.string []), .lit (.string []), .lit (.string [65]), .lit (.string []), .lit (.string [65]), .lit (.string [76]), .lit (.string [65]), .lit (.string [65]), .lit (.string []), .lit (.string [76]), .lit (.string [66])]
def laid_swath_ir_writes {H : Type} : DataW H := .agg [.lit (.string []), .lit (.string [65]), .lit (.string [65]), .lit (.string [65]), .lit (.string [65]), .lit (.string [65]), .lit (.string [65]), .lit (.string [65]), .lit (.string [65]), .lit (.string []), .lit (.string [65]), .lit (.string []), .lit (.string [65]), .lit (.string [65]), .lit (.string [65]), .lit (.string [65]), .lit (.string []), .lit (.string [65]), .lit (.string [65]), .lit (.string [65]), .lit (.string []), .lit (.string []), .lit (.string []), .lit (.string [65]), .lit (.string []), .lit (.string []), .lit (.string []), .lit (.string []), .lit (.string [65])]

/-- 'swathlaw12.LiveTables': WHATEVER THE INPUT: true; the input reads as it did. -/
def liveTablesSpec : ChangeSpec := { name := "liveTables", fn := fun _ => fun
  | [d] => { results := [.lit (.bool true)], args := [d] }
  | _ => none }
def liveTablesRow : OpenClaim := { program := "ytajdnakpljgkpaadoor", sum := "2f2a10e258926d8401d54da43a53a7bfa78fb06f42f5154ccf8ab5e536cf5579", func := "swath/swathlaw12.LiveTables", spec := "liveTables", unfollowed := true, recurses := true, named := ["swath/ir.reads", "swath/ir.writes", "math/bits.deBruijn64tab"], apart := false, laid := [("math/bits.deBruijn64tab", laid_math_bits_deBruijn64tab), ("swath/ir.reads", laid_swath_ir_reads), ("swath/ir.writes", laid_swath_ir_writes)] }
def LiveTablesSaid : Prop := liveTablesRow.holds Tryd.pinned (OpenSpec.ofChange liveTablesSpec)

/-- ITS FALSE NEIGHBOUR: 'it returns false'. Refute it at one input. -/
def liveTablesWrong : ChangeSpec := { name := "liveTables", fn := fun _ => fun
  | [d] => { results := [.lit (.bool false)], args := [d] }
  | _ => none }
def LiveTablesWrongFalsely : Prop := liveTablesRow.holds Tryd.pinned (OpenSpec.ofChange liveTablesWrong)

/-- 'swathlaw12.LiveDead': WHATEVER THE INPUT: true; the input reads as it did. -/
def liveDeadSpec : ChangeSpec := { name := "liveDead", fn := fun _ => fun
  | [d] => { results := [.lit (.bool true)], args := [d] }
  | _ => none }
def liveDeadRow : OpenClaim := { program := "ytajdnakpljgkpaadoor", sum := "2f2a10e258926d8401d54da43a53a7bfa78fb06f42f5154ccf8ab5e536cf5579", func := "swath/swathlaw12.LiveDead", spec := "liveDead", unfollowed := true, recurses := true, named := ["swath/ir.reads", "swath/ir.writes", "math/bits.deBruijn64tab"], apart := false, laid := [("math/bits.deBruijn64tab", laid_math_bits_deBruijn64tab), ("swath/ir.reads", laid_swath_ir_reads), ("swath/ir.writes", laid_swath_ir_writes)] }
def LiveDeadSaid : Prop := liveDeadRow.holds Tryd.pinned (OpenSpec.ofChange liveDeadSpec)

/-- ITS FALSE NEIGHBOUR: 'it returns false'. Refute it at one input. -/
def liveDeadWrong : ChangeSpec := { name := "liveDead", fn := fun _ => fun
  | [d] => { results := [.lit (.bool false)], args := [d] }
  | _ => none }
def LiveDeadWrongFalsely : Prop := liveDeadRow.holds Tryd.pinned (OpenSpec.ofChange liveDeadWrong)

/-- 'swathlaw12.LiveEnough': WHATEVER THE INPUT: true; the input reads as it did. -/
def liveEnoughSpec : ChangeSpec := { name := "liveEnough", fn := fun _ => fun
  | [d1, d2, d3, d4, d5, d6] => { results := [.lit (.bool true)], args := [d1, d2, d3, d4, d5, d6] }
  | _ => none }
def liveEnoughRow : OpenClaim := { program := "ytajdnakpljgkpaadoor", sum := "2f2a10e258926d8401d54da43a53a7bfa78fb06f42f5154ccf8ab5e536cf5579", func := "swath/swathlaw12.LiveEnough", spec := "liveEnough", unfollowed := true, recurses := true, named := ["swath/ir.reads", "swath/ir.writes", "math/bits.deBruijn64tab"], apart := false, laid := [("math/bits.deBruijn64tab", laid_math_bits_deBruijn64tab), ("swath/ir.reads", laid_swath_ir_reads), ("swath/ir.writes", laid_swath_ir_writes)] }
def LiveEnoughSaid : Prop := liveEnoughRow.holds Tryd.pinned (OpenSpec.ofChange liveEnoughSpec)

/-- ITS FALSE NEIGHBOUR: 'it returns false'. Refute it at one input. -/
def liveEnoughWrong : ChangeSpec := { name := "liveEnough", fn := fun _ => fun
  | [d1, d2, d3, d4, d5, d6] => { results := [.lit (.bool false)], args := [d1, d2, d3, d4, d5, d6] }
  | _ => none }
def LiveEnoughWrongFalsely : Prop := liveEnoughRow.holds Tryd.pinned (OpenSpec.ofChange liveEnoughWrong)

/-- 'swathlaw12.LiveEquations': WHATEVER THE INPUT: true; the input reads as it did. -/
def liveEquationsSpec : ChangeSpec := { name := "liveEquations", fn := fun _ => fun
  | [d] => { results := [.lit (.bool true)], args := [d] }
  | _ => none }
def liveEquationsRow : OpenClaim := { program := "ytajdnakpljgkpaadoor", sum := "2f2a10e258926d8401d54da43a53a7bfa78fb06f42f5154ccf8ab5e536cf5579", func := "swath/swathlaw12.LiveEquations", spec := "liveEquations", unfollowed := true, recurses := true, named := ["swath/ir.reads", "swath/ir.writes", "math/bits.deBruijn64tab"], apart := false, laid := [("math/bits.deBruijn64tab", laid_math_bits_deBruijn64tab), ("swath/ir.reads", laid_swath_ir_reads), ("swath/ir.writes", laid_swath_ir_writes)] }
def LiveEquationsSaid : Prop := liveEquationsRow.holds Tryd.pinned (OpenSpec.ofChange liveEquationsSpec)

/-- ITS FALSE NEIGHBOUR: 'it returns false'. Refute it at one input. -/
def liveEquationsWrong : ChangeSpec := { name := "liveEquations", fn := fun _ => fun
  | [d] => { results := [.lit (.bool false)], args := [d] }
  | _ => none }
def LiveEquationsWrongFalsely : Prop := liveEquationsRow.holds Tryd.pinned (OpenSpec.ofChange liveEquationsWrong)

/- THE SECOND FORM. 'bulk': how many values and letters a reading holds, each counted each time it is reached (what is shared counts as often as it is met; a slice's spare places count too). A statement '..UptoSaid' is the law's where the arguments, and the package variables that the reading takes, are together of bulk at most 1048576: NARROWER than '..Said'. Prove '..Said' where nothing that the law and all that it calls make is longer than what came in: it says more and counts as full. Else prove '..UptoSaid'. A law counts once. -/
mutual
def uptoBulk {H : Type} : DataW H → Nat
  | .lit (.string bytes) => bytes.length + 1
  | .lit _ => 1
  | .nil => 1
  | .ptr d => uptoBulk d + 1
  | .slice elems spare => uptoBulkAll elems + uptoBulkAll spare + 1
  | .agg parts => uptoBulkAll parts + 1
  | .iface _ d => uptoBulk d + 1
  | .map entries => uptoBulkEntries entries + 1
  | .held _ => 1
def uptoBulkAll {H : Type} : List (DataW H) → Nat
  | [] => 0
  | d :: r => uptoBulk d + uptoBulkAll r
def uptoBulkEntries {H : Type} : List (Lit × DataW H) → Nat
  | [] => 0
  | x :: r => uptoBulkEntry x + uptoBulkEntries r
def uptoBulkEntry {H : Type} : Lit × DataW H → Nat
  | (.string bytes, d) => bytes.length + uptoBulk d + 1
  | (_, d) => uptoBulk d + 1
 end
def uptoSmall : (H : Type) → List (DataW H) → Bool := fun _ ds => decide (uptoBulkAll ds ≤ 1048576)
def OpenSpec.upto (s : _root_.Go.ChangeSpec) : _root_.Go.OpenSpec := { _root_.Go.OpenSpec.ofChange s with cond := some uptoSmall }

/-- 'swathlaw12.LiveTables', WHERE WHAT IT READS IS OF BULK AT MOST 1048576: true; the input reads as it did. -/
def liveTablesUptoRow : OpenClaim := { program := "ytajdnakpljgkpaadoor", sum := "2f2a10e258926d8401d54da43a53a7bfa78fb06f42f5154ccf8ab5e536cf5579", func := "swath/swathlaw12.LiveTables", spec := "liveTables", unfollowed := true, recurses := true, named := ["swath/ir.reads", "swath/ir.writes", "math/bits.deBruijn64tab"], apart := false, laid := [("math/bits.deBruijn64tab", laid_math_bits_deBruijn64tab), ("swath/ir.reads", laid_swath_ir_reads), ("swath/ir.writes", laid_swath_ir_writes)], narrowed := true }
def LiveTablesUptoSaid : Prop := liveTablesUptoRow.holds Tryd.pinned (OpenSpec.upto liveTablesSpec)

/-- 'swathlaw12.LiveDead', WHERE WHAT IT READS IS OF BULK AT MOST 1048576: true; the input reads as it did. -/
def liveDeadUptoRow : OpenClaim := { program := "ytajdnakpljgkpaadoor", sum := "2f2a10e258926d8401d54da43a53a7bfa78fb06f42f5154ccf8ab5e536cf5579", func := "swath/swathlaw12.LiveDead", spec := "liveDead", unfollowed := true, recurses := true, named := ["swath/ir.reads", "swath/ir.writes", "math/bits.deBruijn64tab"], apart := false, laid := [("math/bits.deBruijn64tab", laid_math_bits_deBruijn64tab), ("swath/ir.reads", laid_swath_ir_reads), ("swath/ir.writes", laid_swath_ir_writes)], narrowed := true }
def LiveDeadUptoSaid : Prop := liveDeadUptoRow.holds Tryd.pinned (OpenSpec.upto liveDeadSpec)

/-- 'swathlaw12.LiveEnough', WHERE WHAT IT READS IS OF BULK AT MOST 1048576: true; the input reads as it did. -/
def liveEnoughUptoRow : OpenClaim := { program := "ytajdnakpljgkpaadoor", sum := "2f2a10e258926d8401d54da43a53a7bfa78fb06f42f5154ccf8ab5e536cf5579", func := "swath/swathlaw12.LiveEnough", spec := "liveEnough", unfollowed := true, recurses := true, named := ["swath/ir.reads", "swath/ir.writes", "math/bits.deBruijn64tab"], apart := false, laid := [("math/bits.deBruijn64tab", laid_math_bits_deBruijn64tab), ("swath/ir.reads", laid_swath_ir_reads), ("swath/ir.writes", laid_swath_ir_writes)], narrowed := true }
def LiveEnoughUptoSaid : Prop := liveEnoughUptoRow.holds Tryd.pinned (OpenSpec.upto liveEnoughSpec)

/-- 'swathlaw12.LiveEquations', WHERE WHAT IT READS IS OF BULK AT MOST 1048576: true; the input reads as it did. -/
def liveEquationsUptoRow : OpenClaim := { program := "ytajdnakpljgkpaadoor", sum := "2f2a10e258926d8401d54da43a53a7bfa78fb06f42f5154ccf8ab5e536cf5579", func := "swath/swathlaw12.LiveEquations", spec := "liveEquations", unfollowed := true, recurses := true, named := ["swath/ir.reads", "swath/ir.writes", "math/bits.deBruijn64tab"], apart := false, laid := [("math/bits.deBruijn64tab", laid_math_bits_deBruijn64tab), ("swath/ir.reads", laid_swath_ir_reads), ("swath/ir.writes", laid_swath_ir_writes)], narrowed := true }
def LiveEquationsUptoSaid : Prop := liveEquationsUptoRow.holds Tryd.pinned (OpenSpec.upto liveEquationsSpec)

end Rows
end Go.Proofs.YtajdnakpljgkpaaDoor
