/-
  NARROWER THAN 'FOR EVERY INPUT', by the rows' own cells (each row's printed sentence says how): TraceShows: laid · TraceKinds: laid · TraceUses: laid · TraceSame: laid · TraceFirst: laid.
  DERIVED. THE GIVEN ROWS OF THIS SEAT. 5 by the template 'for every input the law returns true; each argument reads behind the call as it read before'; 0 by the template 'total and deterministic' (their statements: YtkogfgbgmifcnaaDoorTotals.lean).
  GIVEN WITH THE SEED: the statements are not yours to turn. If you find one false, say at which input.
  Laid BY PROGRAM, IN A SANDBOX (cutbox-rows.mjs): the forced cells as the released guide's own fill.sh prints them over the translation 71cf4f6d74dc1b6b… (all of the seat's roots in one cut). By AI agents, Wed Nov 11 2026. No macro, syntax, notation, axiom, sorry.
-/
import Derived.Test.YtkogfgbgmifcnaaDoorChecked
import GoSem.Claim
import GoSem.ClaimJoined
import GoSem.ClaimMapViews
import Derived.JoinedTies
import Derived.KernelRfl
namespace Go.Proofs.YtkogfgbgmifcnaaDoor
/- THE CELL 'sum', in the pinned program and in every row, IS THE sha256 OF THE DUMP (.gsa) THAT YtkogfgbgmifcnaaDoorProg.lean LOADS. Nothing in Lean hashes anything: it is a label: what it is worth is what the hold of that sum in a sandbox is worth. -/
noncomputable def Tryd.pinned : Pinned := { name := "ytkogfgbgmifcnaadoor", sum := "71cf4f6d74dc1b6b620bcc375a2cb81b85063e733f62d1e1c71e0496f773a9fd", checked := Tryd.checked }
namespace Rows
def none {H : Type} : Left H := { results := [], args := [] }

/- WHAT THE LISTED PACKAGE-LEVEL VARIABLES READ AS WHEN THE CALL BEGINS. Each datum BY PROGRAM (the guide's laid-datum.mjs) off the statement by which the dump's own 'gosem.cut.vars' lays the variable. In a bare row this is a premise. The card (YtkogfgbgmifcnaaDoorCards.lean) ties it to the program's text. -/
def laid_math_bits_deBruijn32tab {H : Type} : DataW H := .agg [.lit (.int .u8 0), .lit (.int .u8 1), .lit (.int .u8 28), .lit (.int .u8 2), .lit (.int .u8 29), .lit (.int .u8 14), .lit (.int .u8 24), .lit (.int .u8 3), .lit (.int .u8 30), .lit (.int .u8 22), .lit (.int .u8 20), .lit (.int .u8 15), .lit (.int .u8 25), .lit (.int .u8 17), .lit (.int .u8 4), .lit (.int .u8 8), .lit (.int .u8 31), .lit (.int .u8 27), .lit (.int .u8 13), .lit (.int .u8 23), .lit (.int .u8 21), .lit (.int .u8 19), .lit (.int .u8 16), .lit (.int .u8 7), .lit (.int .u8 26), .lit (.int .u8 12), .lit (.int .u8 18), .lit (.int .u8 6), .lit (.int .u8 11), .lit (.int .u8 5), .lit (.int .u8 10), .lit (.int .u8 9)]
def laid_math_bits_deBruijn64tab {H : Type} : DataW H := .agg [.lit (.int .u8 0), .lit (.int .u8 1), .lit (.int .u8 56), .lit (.int .u8 2), .lit (.int .u8 57), .lit (.int .u8 49), .lit (.int .u8 28), .lit (.int .u8 3), .lit (.int .u8 61), .lit (.int .u8 58), .lit (.int .u8 42), .lit (.int .u8 50), .lit (.int .u8 38), .lit (.int .u8 29), .lit (.int .u8 17), .lit (.int .u8 4), .lit (.int .u8 62), .lit (.int .u8 47), .lit (.int .u8 59), .lit (.int .u8 36), .lit (.int .u8 45), .lit (.int .u8 43), .lit (.int .u8 51), .lit (.int .u8 22), .lit (.int .u8 53), .lit (.int .u8 39), .lit (.int .u8 33), .lit (.int .u8 30), .lit (.int .u8 24), .lit (.int .u8 18), .lit (.int .u8 12), .lit (.int .u8 5), .lit (.int .u8 63), .lit (.int .u8 55), .lit (.int .u8 48), .lit (.int .u8 27), .lit (.int .u8 60), .lit (.int .u8 41), .lit (.int .u8 37), .lit (.int .u8 16), .lit (.int .u8 46), .lit (.int .u8 35), .lit (.int .u8 44), .lit (.int .u8 21), .lit (.int .u8 52), .lit (.int .u8 32), .lit (.int .u8 23), .lit (.int .u8 11), .lit (.int .u8 54), .lit (.int .u8 26), .lit (.int .u8 40), .lit (.int .u8 15), .lit (.int .u8 34), .lit (.int .u8 20), .lit (.int .u8 31), .lit (.int .u8 10), .lit (.int .u8 25), .lit (.int .u8 14), .lit (.int .u8 19), .lit (.int .u8 9), .lit (.int .u8 13), .lit (.int .u8 8), .lit (.int .u8 7), .lit (.int .u8 6)]
def laid_internal_strconv_uint64pow10 {H : Type} : DataW H := .agg [.lit (.int .u64 1), .lit (.int .u64 10), .lit (.int .u64 100), .lit (.int .u64 1000), .lit (.int .u64 10000), .lit (.int .u64 100000), .lit (.int .u64 1000000), .lit (.int .u64 10000000), .lit (.int .u64 100000000), .lit (.int .u64 1000000000), .lit (.int .u64 10000000000), .lit (.int .u64 100000000000), .lit (.int .u64 1000000000000), .lit (.int .u64 10000000000000), .lit (.int .u64 100000000000000), .lit (.int .u64 1000000000000000), .lit (.int .u64 10000000000000000), .lit (.int .u64 100000000000000000), .lit (.int .u64 1000000000000000000), .lit (.int .u64 10000000000000000000)]
def laid_swath_trace_table {H : Type} : DataW H := .agg [.agg [.lit (.string []), .lit (.int .i64 0), .lit (.bool false), .lit (.bool false)], .agg [.lit (.string []), .lit (.int .i64 0), .lit (.bool false), .lit (.bool false)], .agg [.lit (.string []), .lit (.int .i64 0), .lit (.bool false), .lit (.bool false)], .agg [.lit (.string []), .lit (.int .i64 0), .lit (.bool false), .lit (.bool false)], .agg [.lit (.string [98, 105, 110]), .lit (.int .i64 2), .lit (.bool true), .lit (.bool true)], .agg [.lit (.string [117, 110]), .lit (.int .i64 1), .lit (.bool true), .lit (.bool true)], .agg [.lit (.string [101, 113]), .lit (.int .i64 2), .lit (.bool true), .lit (.bool false)], .agg [.lit (.string [110, 101]), .lit (.int .i64 2), .lit (.bool true), .lit (.bool false)], .agg [.lit (.string [103, 101, 116]), .lit (.int .i64 1), .lit (.bool true), .lit (.bool true)], .agg [.lit (.string [112, 117, 116]), .lit (.int .i64 2), .lit (.bool false), .lit (.bool true)], .agg [.lit (.string [101, 108, 101, 109]), .lit (.int .i64 2), .lit (.bool true), .lit (.bool true)], .agg [.lit (.string [115, 101, 116, 101, 108, 101, 109]), .lit (.int .i64 3), .lit (.bool false), .lit (.bool true)], .agg [.lit (.string [108, 101, 110]), .lit (.int .i64 1), .lit (.bool true), .lit (.bool true)], .agg [.lit (.string [110, 101, 119]), .lit (.int .i64 0), .lit (.bool true), .lit (.bool true)], .agg [.lit (.string [97, 114, 114]), .lit (.int .i64 1), .lit (.bool true), .lit (.bool true)], .agg [.lit (.string [105, 110]), .lit (.int .i64 0), .lit (.bool true), .lit (.bool false)], .agg [.lit (.string [111, 117, 116]), .lit (.int .i64 1), .lit (.bool false), .lit (.bool true)], .agg [.lit (.string [105, 109, 103]), .lit (.int .i64 1), .lit (.bool true), .lit (.bool true)], .agg [.lit (.string []), .lit (.int .i64 0), .lit (.bool false), .lit (.bool false)], .agg [.lit (.string [114, 111, 111, 116]), .lit (.int .i64 0), .lit (.bool true), .lit (.bool false)], .agg [.lit (.string [115, 101, 116, 114, 111, 111, 116]), .lit (.int .i64 1), .lit (.bool false), .lit (.bool false)], .agg [.lit (.string []), .lit (.int .i64 0), .lit (.bool false), .lit (.bool false)], .agg [.lit (.string []), .lit (.int .i64 0), .lit (.bool false), .lit (.bool false)], .agg [.lit (.string []), .lit (.int .i64 0), .lit (.bool false), .lit (.bool false)], .agg [.lit (.string []), .lit (.int .i64 0), .lit (.bool false), .lit (.bool false)], .agg [.lit (.string []), .lit (.int .i64 0), .lit (.bool false), .lit (.bool false)], .agg [.lit (.string [115, 116, 101, 112]), .lit (.int .i64 0), .lit (.bool false), .lit (.bool true)], .agg [.lit (.string []), .lit (.int .i64 0), .lit (.bool false), .lit (.bool false)], .agg [.lit (.string []), .lit (.int .i64 0), .lit (.bool false), .lit (.bool false)], .agg [.lit (.string []), .lit (.int .i64 0), .lit (.bool false), .lit (.bool false)], .agg [.lit (.string [121, 101, 115]), .lit (.int .i64 1), .lit (.bool false), .lit (.bool true)], .agg [.lit (.string [110, 111]), .lit (.int .i64 1), .lit (.bool false), .lit (.bool true)], .agg [.lit (.string [105, 115]), .lit (.int .i64 2), .lit (.bool false), .lit (.bool true)], .agg [.lit (.string [100, 101, 112, 116, 104]), .lit (.int .i64 0), .lit (.bool false), .lit (.bool true)], .agg [.lit (.string [99, 104, 97, 114, 103, 101]), .lit (.int .i64 0), .lit (.bool false), .lit (.bool true)], .agg [.lit (.string [108, 97, 121]), .lit (.int .i64 (-1)), .lit (.bool true), .lit (.bool false)]]

/-- 'swathlaw16.TraceShows': WHATEVER THE INPUT: true; the input reads as it did. -/
def traceShowsSpec : ChangeSpec := { name := "traceShows", fn := fun _ => fun
  | [d] => { results := [.lit (.bool true)], args := [d] }
  | _ => none }
def traceShowsRow : OpenClaim := { program := "ytkogfgbgmifcnaadoor", sum := "71cf4f6d74dc1b6b620bcc375a2cb81b85063e733f62d1e1c71e0496f773a9fd", func := "swath/swathlaw16.TraceShows", spec := "traceShows", inPlace := ["internal/abi.NoEscape", "internal/bytealg.MakeNoZero"], unfollowed := true, recurses := true, named := ["swath/trace.table", "internal/strconv.uint64pow10", "math/bits.deBruijn32tab", "math/bits.deBruijn64tab"], apart := false, laid := [("math/bits.deBruijn32tab", laid_math_bits_deBruijn32tab), ("math/bits.deBruijn64tab", laid_math_bits_deBruijn64tab), ("internal/strconv.uint64pow10", laid_internal_strconv_uint64pow10), ("swath/trace.table", laid_swath_trace_table)] }
def TraceShowsSaid : Prop := traceShowsRow.holds Tryd.pinned (OpenSpec.ofChange traceShowsSpec)

/-- ITS FALSE NEIGHBOUR: 'it returns false'. Refute it at one input. -/
def traceShowsWrong : ChangeSpec := { name := "traceShows", fn := fun _ => fun
  | [d] => { results := [.lit (.bool false)], args := [d] }
  | _ => none }
def TraceShowsWrongFalsely : Prop := traceShowsRow.holds Tryd.pinned (OpenSpec.ofChange traceShowsWrong)

/-- 'swathlaw16.TraceKinds': WHATEVER THE INPUT: true; the input reads as it did. -/
def traceKindsSpec : ChangeSpec := { name := "traceKinds", fn := fun _ => fun
  | [d] => { results := [.lit (.bool true)], args := [d] }
  | _ => none }
def traceKindsRow : OpenClaim := { program := "ytkogfgbgmifcnaadoor", sum := "71cf4f6d74dc1b6b620bcc375a2cb81b85063e733f62d1e1c71e0496f773a9fd", func := "swath/swathlaw16.TraceKinds", spec := "traceKinds", unfollowed := true, recurses := true, named := ["swath/trace.table"], apart := false, laid := [("swath/trace.table", laid_swath_trace_table)] }
def TraceKindsSaid : Prop := traceKindsRow.holds Tryd.pinned (OpenSpec.ofChange traceKindsSpec)

/-- ITS FALSE NEIGHBOUR: 'it returns false'. Refute it at one input. -/
def traceKindsWrong : ChangeSpec := { name := "traceKinds", fn := fun _ => fun
  | [d] => { results := [.lit (.bool false)], args := [d] }
  | _ => none }
def TraceKindsWrongFalsely : Prop := traceKindsRow.holds Tryd.pinned (OpenSpec.ofChange traceKindsWrong)

/-- 'swathlaw16.TraceUses': WHATEVER THE INPUT: true; the input reads as it did. -/
def traceUsesSpec : ChangeSpec := { name := "traceUses", fn := fun _ => fun
  | [d1, d2] => { results := [.lit (.bool true)], args := [d1, d2] }
  | _ => none }
def traceUsesRow : OpenClaim := { program := "ytkogfgbgmifcnaadoor", sum := "71cf4f6d74dc1b6b620bcc375a2cb81b85063e733f62d1e1c71e0496f773a9fd", func := "swath/swathlaw16.TraceUses", spec := "traceUses", unfollowed := true, recurses := true, named := ["swath/trace.table"], apart := false, laid := [("swath/trace.table", laid_swath_trace_table)] }
def TraceUsesSaid : Prop := traceUsesRow.holds Tryd.pinned (OpenSpec.ofChange traceUsesSpec)

/-- ITS FALSE NEIGHBOUR: 'it returns false'. Refute it at one input. -/
def traceUsesWrong : ChangeSpec := { name := "traceUses", fn := fun _ => fun
  | [d1, d2] => { results := [.lit (.bool false)], args := [d1, d2] }
  | _ => none }
def TraceUsesWrongFalsely : Prop := traceUsesRow.holds Tryd.pinned (OpenSpec.ofChange traceUsesWrong)

/-- 'swathlaw16.TraceSame': WHATEVER THE INPUT: true; the input reads as it did. -/
def traceSameSpec : ChangeSpec := { name := "traceSame", fn := fun _ => fun
  | [d1, d2] => { results := [.lit (.bool true)], args := [d1, d2] }
  | _ => none }
def traceSameRow : OpenClaim := { program := "ytkogfgbgmifcnaadoor", sum := "71cf4f6d74dc1b6b620bcc375a2cb81b85063e733f62d1e1c71e0496f773a9fd", func := "swath/swathlaw16.TraceSame", spec := "traceSame", unfollowed := true, recurses := true, named := ["swath/trace.table"], apart := false, laid := [("swath/trace.table", laid_swath_trace_table)] }
def TraceSameSaid : Prop := traceSameRow.holds Tryd.pinned (OpenSpec.ofChange traceSameSpec)

/-- ITS FALSE NEIGHBOUR: 'it returns false'. Refute it at one input. -/
def traceSameWrong : ChangeSpec := { name := "traceSame", fn := fun _ => fun
  | [d1, d2] => { results := [.lit (.bool false)], args := [d1, d2] }
  | _ => none }
def TraceSameWrongFalsely : Prop := traceSameRow.holds Tryd.pinned (OpenSpec.ofChange traceSameWrong)

/-- 'swathlaw16.TraceFirst': WHATEVER THE INPUT: true; the input reads as it did. -/
def traceFirstSpec : ChangeSpec := { name := "traceFirst", fn := fun _ => fun
  | [d] => { results := [.lit (.bool true)], args := [d] }
  | _ => none }
def traceFirstRow : OpenClaim := { program := "ytkogfgbgmifcnaadoor", sum := "71cf4f6d74dc1b6b620bcc375a2cb81b85063e733f62d1e1c71e0496f773a9fd", func := "swath/swathlaw16.TraceFirst", spec := "traceFirst", unfollowed := true, recurses := true, named := ["swath/trace.table"], apart := false, laid := [("swath/trace.table", laid_swath_trace_table)] }
def TraceFirstSaid : Prop := traceFirstRow.holds Tryd.pinned (OpenSpec.ofChange traceFirstSpec)

/-- ITS FALSE NEIGHBOUR: 'it returns false'. Refute it at one input. -/
def traceFirstWrong : ChangeSpec := { name := "traceFirst", fn := fun _ => fun
  | [d] => { results := [.lit (.bool false)], args := [d] }
  | _ => none }
def TraceFirstWrongFalsely : Prop := traceFirstRow.holds Tryd.pinned (OpenSpec.ofChange traceFirstWrong)

/- THE SECOND FORM. 'bulk': how many values and letters a reading holds, each counted each time it is reached (what is shared counts as often as it is met; a slice's spare places count too). A statement '..UptoSaid' is the law's where the arguments, and the package variables that the reading takes, are together of bulk at most 1048576: NARROWER than '..Said'. Prove '..Said' where nothing that the law and all that it calls make is longer than what came in: it says more and counts as full. Else prove '..UptoSaid'. A law counts once. -/
mutual
def uptoBulk {H : Type} : DataW H → Nat
  | .lit (.string bytes) => bytes.length + 1
  | .lit _ => 1
  | .nil => 1
  | .ptr d => uptoBulk d + 1
  | .slice elems spare => uptoBulkAll elems + uptoBulkAll spare + 1
  | .agg parts => uptoBulkAll parts + 1
  | .iface _ d => uptoBulk d + 1
  | .map entries => uptoBulkEntries entries + 1
  | .held _ => 1
def uptoBulkAll {H : Type} : List (DataW H) → Nat
  | [] => 0
  | d :: r => uptoBulk d + uptoBulkAll r
def uptoBulkEntries {H : Type} : List (Lit × DataW H) → Nat
  | [] => 0
  | x :: r => uptoBulkEntry x + uptoBulkEntries r
def uptoBulkEntry {H : Type} : Lit × DataW H → Nat
  | (.string bytes, d) => bytes.length + uptoBulk d + 1
  | (_, d) => uptoBulk d + 1
 end
def uptoSmall : (H : Type) → List (DataW H) → Bool := fun _ ds => decide (uptoBulkAll ds ≤ 1048576)
def OpenSpec.upto (s : _root_.Go.ChangeSpec) : _root_.Go.OpenSpec := { _root_.Go.OpenSpec.ofChange s with cond := some uptoSmall }

/-- 'swathlaw16.TraceShows', WHERE WHAT IT READS IS OF BULK AT MOST 1048576: true; the input reads as it did. -/
def traceShowsUptoRow : OpenClaim := { program := "ytkogfgbgmifcnaadoor", sum := "71cf4f6d74dc1b6b620bcc375a2cb81b85063e733f62d1e1c71e0496f773a9fd", func := "swath/swathlaw16.TraceShows", spec := "traceShows", inPlace := ["internal/abi.NoEscape", "internal/bytealg.MakeNoZero"], unfollowed := true, recurses := true, named := ["swath/trace.table", "internal/strconv.uint64pow10", "math/bits.deBruijn32tab", "math/bits.deBruijn64tab"], apart := false, laid := [("math/bits.deBruijn32tab", laid_math_bits_deBruijn32tab), ("math/bits.deBruijn64tab", laid_math_bits_deBruijn64tab), ("internal/strconv.uint64pow10", laid_internal_strconv_uint64pow10), ("swath/trace.table", laid_swath_trace_table)], narrowed := true }
def TraceShowsUptoSaid : Prop := traceShowsUptoRow.holds Tryd.pinned (OpenSpec.upto traceShowsSpec)

/-- 'swathlaw16.TraceKinds', WHERE WHAT IT READS IS OF BULK AT MOST 1048576: true; the input reads as it did. -/
def traceKindsUptoRow : OpenClaim := { program := "ytkogfgbgmifcnaadoor", sum := "71cf4f6d74dc1b6b620bcc375a2cb81b85063e733f62d1e1c71e0496f773a9fd", func := "swath/swathlaw16.TraceKinds", spec := "traceKinds", unfollowed := true, recurses := true, named := ["swath/trace.table"], apart := false, laid := [("swath/trace.table", laid_swath_trace_table)], narrowed := true }
def TraceKindsUptoSaid : Prop := traceKindsUptoRow.holds Tryd.pinned (OpenSpec.upto traceKindsSpec)

/-- 'swathlaw16.TraceUses', WHERE WHAT IT READS IS OF BULK AT MOST 1048576: true; the input reads as it did. -/
def traceUsesUptoRow : OpenClaim := { program := "ytkogfgbgmifcnaadoor", sum := "71cf4f6d74dc1b6b620bcc375a2cb81b85063e733f62d1e1c71e0496f773a9fd", func := "swath/swathlaw16.TraceUses", spec := "traceUses", unfollowed := true, recurses := true, named := ["swath/trace.table"], apart := false, laid := [("swath/trace.table", laid_swath_trace_table)], narrowed := true }
def TraceUsesUptoSaid : Prop := traceUsesUptoRow.holds Tryd.pinned (OpenSpec.upto traceUsesSpec)

/-- 'swathlaw16.TraceSame', WHERE WHAT IT READS IS OF BULK AT MOST 1048576: true; the input reads as it did. -/
def traceSameUptoRow : OpenClaim := { program := "ytkogfgbgmifcnaadoor", sum := "71cf4f6d74dc1b6b620bcc375a2cb81b85063e733f62d1e1c71e0496f773a9fd", func := "swath/swathlaw16.TraceSame", spec := "traceSame", unfollowed := true, recurses := true, named := ["swath/trace.table"], apart := false, laid := [("swath/trace.table", laid_swath_trace_table)], narrowed := true }
def TraceSameUptoSaid : Prop := traceSameUptoRow.holds Tryd.pinned (OpenSpec.upto traceSameSpec)

/-- 'swathlaw16.TraceFirst', WHERE WHAT IT READS IS OF BULK AT MOST 1048576: true; the input reads as it did. -/
def traceFirstUptoRow : OpenClaim := { program := "ytkogfgbgmifcnaadoor", sum := "71cf4f6d74dc1b6b620bcc375a2cb81b85063e733f62d1e1c71e0496f773a9fd", func := "swath/swathlaw16.TraceFirst", spec := "traceFirst", unfollowed := true, recurses := true, named := ["swath/trace.table"], apart := false, laid := [("swath/trace.table", laid_swath_trace_table)], narrowed := true }
def TraceFirstUptoSaid : Prop := traceFirstUptoRow.holds Tryd.pinned (OpenSpec.upto traceFirstSpec)

end Rows
end Go.Proofs.YtkogfgbgmifcnaaDoor
