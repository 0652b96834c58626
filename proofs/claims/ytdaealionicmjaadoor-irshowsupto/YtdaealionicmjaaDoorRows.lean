/-
  NARROWER THAN 'FOR EVERY INPUT', by the rows' own cells (each row's printed sentence says how): IrChecks: laid · IrShows: laid · IrUses: laid · IrNext: laid · IrSame: laid.
  DERIVED. THE GIVEN ROWS OF THIS SEAT. 5 by the template 'for every input the law returns true; each argument reads behind the call as it read before'; 0 by the template 'total and deterministic' (their statements: YtdaealionicmjaaDoorTotals.lean).
  GIVEN WITH THE SEED: the statements are not yours to turn. If you find one false, say at which input.
  Laid BY PROGRAM, IN A SANDBOX (cutbox-rows.mjs): the forced cells as the released guide's own fill.sh prints them over the translation 19ec59c86345a4b7… (all of the seat's roots in one cut). By AI agents, Wed Nov 11 2026. No macro, syntax, notation, axiom, sorry.
-/
import Derived.Test.YtdaealionicmjaaDoorChecked
import GoSem.Claim
import GoSem.ClaimJoined
import GoSem.ClaimMapViews
import Derived.JoinedTies
import Derived.KernelRfl
namespace Go.Proofs.YtdaealionicmjaaDoor
/- THE CELL 'sum', in the pinned program and in every row, IS THE sha256 OF THE DUMP (.gsa) THAT YtdaealionicmjaaDoorProg.lean LOADS. Nothing in Lean hashes anything: it is a label: what it is worth is what the hold of that sum in a sandbox is worth. -/
noncomputable def Tryd.pinned : Pinned := { name := "ytdaealionicmjaadoor", sum := "19ec59c86345a4b788ecc77dc03fe76aa78b8cff954f9159e9b5e2e8a5cfc416", checked := Tryd.checked }
namespace Rows
def none {H : Type} : Left H := { results := [], args := [] }

/- WHAT THE LISTED PACKAGE-LEVEL VARIABLES READ AS WHEN THE CALL BEGINS. Each datum BY PROGRAM (the guide's laid-datum.mjs) off the statement by which the dump's own 'gosem.cut.vars' lays the variable. In a bare row this is a premise. The card (YtdaealionicmjaaDoorCards.lean) ties it to the program's text. -/
def laid_swath_ir_fields {H : Type} : DataW H := .agg [.lit (.string []), .lit (.string [65, 75]), .lit (.string [65]), .lit (.string [65, 66]), .lit (.string [65, 66, 67, 75]), .lit (.string [65, 66, 75]), .lit (.string [65, 66, 67]), .lit (.string [65, 66, 67]), .lit (.string [65, 66, 99, 75]), .lit (.string [65, 66, 99, 75]), .lit (.string [65, 66, 67]), .lit (.string [65, 66, 67]), .lit (.string [65, 66]), .lit (.string [65, 99, 75]), .lit (.string [65, 66]), .lit (.string [65]), .lit (.string [65]), .lit (.string [65, 66]), .lit (.string [65]), .lit (.string [65]), .lit (.string [65]), .lit (.string [75]), .lit (.string [65, 75]), .lit (.string [65, 75, 76]), .lit (.string [65]), .lit (.string [65]), .lit (.string []), .lit (.string [75, 76]), .lit (.string [65, 66])]
def laid_swath_ir_reads {H : Type} : DataW H := .agg [.lit (.string []), .lit (.string []), .lit (.string []), .lit (.string [66]), .lit (.string [66, 67]), .lit (.string [66]), .lit (.string [66, 67]), .lit (.string [66, 67]), .lit (.string [66]), .lit (.string [65, 66]), .lit (.string [66, 67]), .lit (.string [65, 66, 67]), .lit (.string [66]), .lit (.string []), .lit (.string [66]), .lit (.string []), .lit (.string [65]), .lit (.string [66]), .lit (.string []), .lit (.string []), .lit (.string [65]), .lit (.string []), .lit (.string [65]), .lit (.string [76]), .lit (.string [65]), .lit (.string [65]), .lit (.string []), .lit (.string [76]), .lit (.string [66])]
def laid_swath_ir_writes {H : Type} : DataW H := .agg [.lit (.string []), .lit (.string [65]), .lit (.string [65]), .lit (.string [65]), .lit (.string [65]), .lit (.string [65]), .lit (.string [65]), .lit (.string [65]), .lit (.string [65]), .lit (.string []), .lit (.string [65]), .lit (.string []), .lit (.string [65]), .lit (.string [65]), .lit (.string [65]), .lit (.string [65]), .lit (.string []), .lit (.string [65]), .lit (.string [65]), .lit (.string [65]), .lit (.string []), .lit (.string []), .lit (.string []), .lit (.string [65]), .lit (.string []), .lit (.string []), .lit (.string []), .lit (.string []), .lit (.string [65])]
def laid_math_bits_deBruijn32tab {H : Type} : DataW H := .agg [.lit (.int .u8 0), .lit (.int .u8 1), .lit (.int .u8 28), .lit (.int .u8 2), .lit (.int .u8 29), .lit (.int .u8 14), .lit (.int .u8 24), .lit (.int .u8 3), .lit (.int .u8 30), .lit (.int .u8 22), .lit (.int .u8 20), .lit (.int .u8 15), .lit (.int .u8 25), .lit (.int .u8 17), .lit (.int .u8 4), .lit (.int .u8 8), .lit (.int .u8 31), .lit (.int .u8 27), .lit (.int .u8 13), .lit (.int .u8 23), .lit (.int .u8 21), .lit (.int .u8 19), .lit (.int .u8 16), .lit (.int .u8 7), .lit (.int .u8 26), .lit (.int .u8 12), .lit (.int .u8 18), .lit (.int .u8 6), .lit (.int .u8 11), .lit (.int .u8 5), .lit (.int .u8 10), .lit (.int .u8 9)]
def laid_math_bits_deBruijn64tab {H : Type} : DataW H := .agg [.lit (.int .u8 0), .lit (.int .u8 1), .lit (.int .u8 56), .lit (.int .u8 2), .lit (.int .u8 57), .lit (.int .u8 49), .lit (.int .u8 28), .lit (.int .u8 3), .lit (.int .u8 61), .lit (.int .u8 58), .lit (.int .u8 42), .lit (.int .u8 50), .lit (.int .u8 38), .lit (.int .u8 29), .lit (.int .u8 17), .lit (.int .u8 4), .lit (.int .u8 62), .lit (.int .u8 47), .lit (.int .u8 59), .lit (.int .u8 36), .lit (.int .u8 45), .lit (.int .u8 43), .lit (.int .u8 51), .lit (.int .u8 22), .lit (.int .u8 53), .lit (.int .u8 39), .lit (.int .u8 33), .lit (.int .u8 30), .lit (.int .u8 24), .lit (.int .u8 18), .lit (.int .u8 12), .lit (.int .u8 5), .lit (.int .u8 63), .lit (.int .u8 55), .lit (.int .u8 48), .lit (.int .u8 27), .lit (.int .u8 60), .lit (.int .u8 41), .lit (.int .u8 37), .lit (.int .u8 16), .lit (.int .u8 46), .lit (.int .u8 35), .lit (.int .u8 44), .lit (.int .u8 21), .lit (.int .u8 52), .lit (.int .u8 32), .lit (.int .u8 23), .lit (.int .u8 11), .lit (.int .u8 54), .lit (.int .u8 26), .lit (.int .u8 40), .lit (.int .u8 15), .lit (.int .u8 34), .lit (.int .u8 20), .lit (.int .u8 31), .lit (.int .u8 10), .lit (.int .u8 25), .lit (.int .u8 14), .lit (.int .u8 19), .lit (.int .u8 9), .lit (.int .u8 13), .lit (.int .u8 8), .lit (.int .u8 7), .lit (.int .u8 6)]
def laid_internal_strconv_uint64pow10 {H : Type} : DataW H := .agg [.lit (.int .u64 1), .lit (.int .u64 10), .lit (.int .u64 100), .lit (.int .u64 1000), .lit (.int .u64 10000), .lit (.int .u64 100000), .lit (.int .u64 1000000), .lit (.int .u64 10000000), .lit (.int .u64 100000000), .lit (.int .u64 1000000000), .lit (.int .u64 10000000000), .lit (.int .u64 100000000000), .lit (.int .u64 1000000000000), .lit (.int .u64 10000000000000), .lit (.int .u64 100000000000000), .lit (.int .u64 1000000000000000), .lit (.int .u64 10000000000000000), .lit (.int .u64 100000000000000000), .lit (.int .u64 1000000000000000000), .lit (.int .u64 10000000000000000000)]
def laid_swath_ir_names {H : Type} : DataW H := .agg [.lit (.string [63]), .lit (.string [110, 117, 109]), .lit (.string [110, 117, 108, 108]), .lit (.string [109, 111, 118, 101]), .lit (.string [98, 105, 110]), .lit (.string [117, 110]), .lit (.string [101, 113]), .lit (.string [110, 101]), .lit (.string [103, 101, 116]), .lit (.string [112, 117, 116]), .lit (.string [101, 108, 101, 109]), .lit (.string [115, 101, 116, 101, 108, 101, 109]), .lit (.string [108, 101, 110]), .lit (.string [110, 101, 119]), .lit (.string [97, 114, 114]), .lit (.string [105, 110]), .lit (.string [111, 117, 116]), .lit (.string [105, 109, 103]), .lit (.string [115, 105, 122, 101]), .lit (.string [114, 111, 111, 116]), .lit (.string [115, 101, 116, 114, 111, 111, 116]), .lit (.string [106, 117, 109, 112]), .lit (.string [122, 101, 114, 111]), .lit (.string [99, 97, 108, 108]), .lit (.string [114, 101, 116]), .lit (.string [115, 116, 111, 112]), .lit (.string [115, 116, 101, 112]), .lit (.string [109, 101, 114, 103, 101]), .lit (.string [112, 114, 111, 109, 111, 116, 101])]

/-- 'swathlaw10.IrChecks': WHATEVER THE INPUT: true; the input reads as it did. -/
def irChecksSpec : ChangeSpec := { name := "irChecks", fn := fun _ => fun
  | [d] => { results := [.lit (.bool true)], args := [d] }
  | _ => none }
def irChecksRow : OpenClaim := { program := "ytdaealionicmjaadoor", sum := "19ec59c86345a4b788ecc77dc03fe76aa78b8cff954f9159e9b5e2e8a5cfc416", func := "swath/swathlaw10.IrChecks", spec := "irChecks", unfollowed := true, recurses := true, named := ["swath/ir.fields", "swath/ir.writes", "swath/ir.reads"], apart := false, laid := [("swath/ir.fields", laid_swath_ir_fields), ("swath/ir.reads", laid_swath_ir_reads), ("swath/ir.writes", laid_swath_ir_writes)] }
def IrChecksSaid : Prop := irChecksRow.holds Tryd.pinned (OpenSpec.ofChange irChecksSpec)

/-- ITS FALSE NEIGHBOUR: 'it returns false'. Refute it at one input. -/
def irChecksWrong : ChangeSpec := { name := "irChecks", fn := fun _ => fun
  | [d] => { results := [.lit (.bool false)], args := [d] }
  | _ => none }
def IrChecksWrongFalsely : Prop := irChecksRow.holds Tryd.pinned (OpenSpec.ofChange irChecksWrong)

/-- 'swathlaw10.IrShows': WHATEVER THE INPUT: true; the input reads as it did. -/
def irShowsSpec : ChangeSpec := { name := "irShows", fn := fun _ => fun
  | [d] => { results := [.lit (.bool true)], args := [d] }
  | _ => none }
def irShowsRow : OpenClaim := { program := "ytdaealionicmjaadoor", sum := "19ec59c86345a4b788ecc77dc03fe76aa78b8cff954f9159e9b5e2e8a5cfc416", func := "swath/swathlaw10.IrShows", spec := "irShows", inPlace := ["internal/abi.NoEscape", "internal/bytealg.MakeNoZero"], unfollowed := true, recurses := true, named := ["swath/ir.fields", "swath/ir.writes", "swath/ir.reads", "swath/ir.names", "internal/strconv.uint64pow10", "math/bits.deBruijn32tab", "math/bits.deBruijn64tab"], apart := false, laid := [("math/bits.deBruijn32tab", laid_math_bits_deBruijn32tab), ("math/bits.deBruijn64tab", laid_math_bits_deBruijn64tab), ("internal/strconv.uint64pow10", laid_internal_strconv_uint64pow10), ("swath/ir.names", laid_swath_ir_names), ("swath/ir.fields", laid_swath_ir_fields), ("swath/ir.reads", laid_swath_ir_reads), ("swath/ir.writes", laid_swath_ir_writes)] }
def IrShowsSaid : Prop := irShowsRow.holds Tryd.pinned (OpenSpec.ofChange irShowsSpec)

/-- ITS FALSE NEIGHBOUR: 'it returns false'. Refute it at one input. -/
def irShowsWrong : ChangeSpec := { name := "irShows", fn := fun _ => fun
  | [d] => { results := [.lit (.bool false)], args := [d] }
  | _ => none }
def IrShowsWrongFalsely : Prop := irShowsRow.holds Tryd.pinned (OpenSpec.ofChange irShowsWrong)

/-- 'swathlaw10.IrUses': WHATEVER THE INPUT: true; the input reads as it did. -/
def irUsesSpec : ChangeSpec := { name := "irUses", fn := fun _ => fun
  | [d] => { results := [.lit (.bool true)], args := [d] }
  | _ => none }
def irUsesRow : OpenClaim := { program := "ytdaealionicmjaadoor", sum := "19ec59c86345a4b788ecc77dc03fe76aa78b8cff954f9159e9b5e2e8a5cfc416", func := "swath/swathlaw10.IrUses", spec := "irUses", unfollowed := true, recurses := true, named := ["swath/ir.fields", "swath/ir.writes", "swath/ir.reads"], apart := false, laid := [("swath/ir.fields", laid_swath_ir_fields), ("swath/ir.reads", laid_swath_ir_reads), ("swath/ir.writes", laid_swath_ir_writes)] }
def IrUsesSaid : Prop := irUsesRow.holds Tryd.pinned (OpenSpec.ofChange irUsesSpec)

/-- ITS FALSE NEIGHBOUR: 'it returns false'. Refute it at one input. -/
def irUsesWrong : ChangeSpec := { name := "irUses", fn := fun _ => fun
  | [d] => { results := [.lit (.bool false)], args := [d] }
  | _ => none }
def IrUsesWrongFalsely : Prop := irUsesRow.holds Tryd.pinned (OpenSpec.ofChange irUsesWrong)

/-- 'swathlaw10.IrNext': WHATEVER THE INPUT: true; the input reads as it did. -/
def irNextSpec : ChangeSpec := { name := "irNext", fn := fun _ => fun
  | [d1, d2] => { results := [.lit (.bool true)], args := [d1, d2] }
  | _ => none }
def irNextRow : OpenClaim := { program := "ytdaealionicmjaadoor", sum := "19ec59c86345a4b788ecc77dc03fe76aa78b8cff954f9159e9b5e2e8a5cfc416", func := "swath/swathlaw10.IrNext", spec := "irNext", unfollowed := true, recurses := true, named := ["swath/ir.fields", "swath/ir.writes", "swath/ir.reads"], apart := false, laid := [("swath/ir.fields", laid_swath_ir_fields), ("swath/ir.reads", laid_swath_ir_reads), ("swath/ir.writes", laid_swath_ir_writes)] }
def IrNextSaid : Prop := irNextRow.holds Tryd.pinned (OpenSpec.ofChange irNextSpec)

/-- ITS FALSE NEIGHBOUR: 'it returns false'. Refute it at one input. -/
def irNextWrong : ChangeSpec := { name := "irNext", fn := fun _ => fun
  | [d1, d2] => { results := [.lit (.bool false)], args := [d1, d2] }
  | _ => none }
def IrNextWrongFalsely : Prop := irNextRow.holds Tryd.pinned (OpenSpec.ofChange irNextWrong)

/-- 'swathlaw10.IrSame': WHATEVER THE INPUT: true; the input reads as it did. -/
def irSameSpec : ChangeSpec := { name := "irSame", fn := fun _ => fun
  | [d1, d2] => { results := [.lit (.bool true)], args := [d1, d2] }
  | _ => none }
def irSameRow : OpenClaim := { program := "ytdaealionicmjaadoor", sum := "19ec59c86345a4b788ecc77dc03fe76aa78b8cff954f9159e9b5e2e8a5cfc416", func := "swath/swathlaw10.IrSame", spec := "irSame", unfollowed := true, recurses := true, named := ["swath/ir.fields", "swath/ir.writes", "swath/ir.reads"], apart := false, laid := [("swath/ir.fields", laid_swath_ir_fields), ("swath/ir.reads", laid_swath_ir_reads), ("swath/ir.writes", laid_swath_ir_writes)] }
def IrSameSaid : Prop := irSameRow.holds Tryd.pinned (OpenSpec.ofChange irSameSpec)

/-- ITS FALSE NEIGHBOUR: 'it returns false'. Refute it at one input. -/
def irSameWrong : ChangeSpec := { name := "irSame", fn := fun _ => fun
  | [d1, d2] => { results := [.lit (.bool false)], args := [d1, d2] }
  | _ => none }
def IrSameWrongFalsely : Prop := irSameRow.holds Tryd.pinned (OpenSpec.ofChange irSameWrong)

/- THE SECOND FORM. 'bulk': how many values and letters a reading holds, each counted each time it is reached (what is shared counts as often as it is met; a slice's spare places count too). A statement '..UptoSaid' is the law's where the arguments, and the package variables that the reading takes, are together of bulk at most 1048576: NARROWER than '..Said'. Prove '..Said' where nothing that the law and all that it calls make is longer than what came in: it says more and counts as full. Else prove '..UptoSaid'. A law counts once. -/
mutual
def uptoBulk {H : Type} : DataW H → Nat
  | .lit (.string bytes) => bytes.length + 1
  | .lit _ => 1
  | .nil => 1
  | .ptr d => uptoBulk d + 1
  | .slice elems spare => uptoBulkAll elems + uptoBulkAll spare + 1
  | .agg parts => uptoBulkAll parts + 1
  | .iface _ d => uptoBulk d + 1
  | .map entries => uptoBulkEntries entries + 1
  | .held _ => 1
def uptoBulkAll {H : Type} : List (DataW H) → Nat
  | [] => 0
  | d :: r => uptoBulk d + uptoBulkAll r
def uptoBulkEntries {H : Type} : List (Lit × DataW H) → Nat
  | [] => 0
  | x :: r => uptoBulkEntry x + uptoBulkEntries r
def uptoBulkEntry {H : Type} : Lit × DataW H → Nat
  | (.string bytes, d) => bytes.length + uptoBulk d + 1
  | (_, d) => uptoBulk d + 1
 end
def uptoSmall : (H : Type) → List (DataW H) → Bool := fun _ ds => decide (uptoBulkAll ds ≤ 1048576)
def OpenSpec.upto (s : _root_.Go.ChangeSpec) : _root_.Go.OpenSpec := { _root_.Go.OpenSpec.ofChange s with cond := some uptoSmall }

/-- 'swathlaw10.IrChecks', WHERE WHAT IT READS IS OF BULK AT MOST 1048576: true; the input reads as it did. -/
def irChecksUptoRow : OpenClaim := { program := "ytdaealionicmjaadoor", sum := "19ec59c86345a4b788ecc77dc03fe76aa78b8cff954f9159e9b5e2e8a5cfc416", func := "swath/swathlaw10.IrChecks", spec := "irChecks", unfollowed := true, recurses := true, named := ["swath/ir.fields", "swath/ir.writes", "swath/ir.reads"], apart := false, laid := [("swath/ir.fields", laid_swath_ir_fields), ("swath/ir.reads", laid_swath_ir_reads), ("swath/ir.writes", laid_swath_ir_writes)], narrowed := true }
def IrChecksUptoSaid : Prop := irChecksUptoRow.holds Tryd.pinned (OpenSpec.upto irChecksSpec)

/-- 'swathlaw10.IrShows', WHERE WHAT IT READS IS OF BULK AT MOST 1048576: true; the input reads as it did. -/
def irShowsUptoRow : OpenClaim := { program := "ytdaealionicmjaadoor", sum := "19ec59c86345a4b788ecc77dc03fe76aa78b8cff954f9159e9b5e2e8a5cfc416", func := "swath/swathlaw10.IrShows", spec := "irShows", inPlace := ["internal/abi.NoEscape", "internal/bytealg.MakeNoZero"], unfollowed := true, recurses := true, named := ["swath/ir.fields", "swath/ir.writes", "swath/ir.reads", "swath/ir.names", "internal/strconv.uint64pow10", "math/bits.deBruijn32tab", "math/bits.deBruijn64tab"], apart := false, laid := [("math/bits.deBruijn32tab", laid_math_bits_deBruijn32tab), ("math/bits.deBruijn64tab", laid_math_bits_deBruijn64tab), ("internal/strconv.uint64pow10", laid_internal_strconv_uint64pow10), ("swath/ir.names", laid_swath_ir_names), ("swath/ir.fields", laid_swath_ir_fields), ("swath/ir.reads", laid_swath_ir_reads), ("swath/ir.writes", laid_swath_ir_writes)], narrowed := true }
def IrShowsUptoSaid : Prop := irShowsUptoRow.holds Tryd.pinned (OpenSpec.upto irShowsSpec)

/-- 'swathlaw10.IrUses', WHERE WHAT IT READS IS OF BULK AT MOST 1048576: true; the input reads as it did. -/
def irUsesUptoRow : OpenClaim := { program := "ytdaealionicmjaadoor", sum := "19ec59c86345a4b788ecc77dc03fe76aa78b8cff954f9159e9b5e2e8a5cfc416", func := "swath/swathlaw10.IrUses", spec := "irUses", unfollowed := true, recurses := true, named := ["swath/ir.fields", "swath/ir.writes", "swath/ir.reads"], apart := false, laid := [("swath/ir.fields", laid_swath_ir_fields), ("swath/ir.reads", laid_swath_ir_reads), ("swath/ir.writes", laid_swath_ir_writes)], narrowed := true }
def IrUsesUptoSaid : Prop := irUsesUptoRow.holds Tryd.pinned (OpenSpec.upto irUsesSpec)

/-- 'swathlaw10.IrNext', WHERE WHAT IT READS IS OF BULK AT MOST 1048576: true; the input reads as it did. -/
def irNextUptoRow : OpenClaim := { program := "ytdaealionicmjaadoor", sum := "19ec59c86345a4b788ecc77dc03fe76aa78b8cff954f9159e9b5e2e8a5cfc416", func := "swath/swathlaw10.IrNext", spec := "irNext", unfollowed := true, recurses := true, named := ["swath/ir.fields", "swath/ir.writes", "swath/ir.reads"], apart := false, laid := [("swath/ir.fields", laid_swath_ir_fields), ("swath/ir.reads", laid_swath_ir_reads), ("swath/ir.writes", laid_swath_ir_writes)], narrowed := true }
def IrNextUptoSaid : Prop := irNextUptoRow.holds Tryd.pinned (OpenSpec.upto irNextSpec)

/-- 'swathlaw10.IrSame', WHERE WHAT IT READS IS OF BULK AT MOST 1048576: true; the input reads as it did. -/
def irSameUptoRow : OpenClaim := { program := "ytdaealionicmjaadoor", sum := "19ec59c86345a4b788ecc77dc03fe76aa78b8cff954f9159e9b5e2e8a5cfc416", func := "swath/swathlaw10.IrSame", spec := "irSame", unfollowed := true, recurses := true, named := ["swath/ir.fields", "swath/ir.writes", "swath/ir.reads"], apart := false, laid := [("swath/ir.fields", laid_swath_ir_fields), ("swath/ir.reads", laid_swath_ir_reads), ("swath/ir.writes", laid_swath_ir_writes)], narrowed := true }
def IrSameUptoSaid : Prop := irSameUptoRow.holds Tryd.pinned (OpenSpec.upto irSameSpec)

end Rows
end Go.Proofs.YtdaealionicmjaaDoor
