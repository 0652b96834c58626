/-
  DERIVED. GIVEN WITH THE SEED: THE CARDS: each row of YtkogfgbgmifcnaaDoorRows.lean that lists a variable, with what it lists TIED to the program's text (the seventh form; the later family's looks); each row that meets fmt, with fmt's text TOLD by the authors' own Lean function (tested against real Go, not proved from fmt's source: count such statements apart). THE CARD IS WHAT COUNTS. Prove the row's statement (the work); the ties are given (YtkogfgbgmifcnaaDoorTie.lean); close each card by the builder's one call (the guide's Derived/Test/ToyasCard.lean, 'card_holds'). Laid BY PROGRAM, IN A SANDBOX (cutbox-door.mjs). By AI agents, Wed Nov 11 2026. No macro, syntax, notation, axiom, sorry.
-/
import Derived.Test.YtkogfgbgmifcnaaDoorRows
import GoSem.ClaimSeven
namespace Go.Proofs.YtkogfgbgmifcnaaDoor
namespace Rows

/-- THE TIED CARD OF 'swathlaw16.TraceShows'. -/
def traceShowsCard : Claim7 := { stood := { row := traceShowsRow, standIns := [], harness := (true, "75ee6d91a4e2598adffe2ea96b95eecc3dfb48ffa87983154798a9c161b66dbe"), looks := true }, kinds := [], alts := [], laidByText := true, laidKinds := [.data, .data, .data, .data], laidTests := true, laidLooks := .later }
def TraceShowsCardSaid : Prop := Claim7.holds Tryd.pinned (.plain (OpenSpec.ofChange traceShowsSpec)) traceShowsCard

/-- THE TIED CARD OF 'swathlaw16.TraceKinds'. -/
def traceKindsCard : Claim7 := { stood := { row := traceKindsRow, standIns := [], harness := (true, "75ee6d91a4e2598adffe2ea96b95eecc3dfb48ffa87983154798a9c161b66dbe"), looks := true }, kinds := [], alts := [], laidByText := true, laidKinds := [.data], laidTests := true, laidLooks := .later }
def TraceKindsCardSaid : Prop := Claim7.holds Tryd.pinned (.plain (OpenSpec.ofChange traceKindsSpec)) traceKindsCard

/-- THE TIED CARD OF 'swathlaw16.TraceUses'. -/
def traceUsesCard : Claim7 := { stood := { row := traceUsesRow, standIns := [], harness := (true, "75ee6d91a4e2598adffe2ea96b95eecc3dfb48ffa87983154798a9c161b66dbe"), looks := true }, kinds := [], alts := [], laidByText := true, laidKinds := [.data], laidTests := true, laidLooks := .later }
def TraceUsesCardSaid : Prop := Claim7.holds Tryd.pinned (.plain (OpenSpec.ofChange traceUsesSpec)) traceUsesCard

/-- THE TIED CARD OF 'swathlaw16.TraceSame'. -/
def traceSameCard : Claim7 := { stood := { row := traceSameRow, standIns := [], harness := (true, "75ee6d91a4e2598adffe2ea96b95eecc3dfb48ffa87983154798a9c161b66dbe"), looks := true }, kinds := [], alts := [], laidByText := true, laidKinds := [.data], laidTests := true, laidLooks := .later }
def TraceSameCardSaid : Prop := Claim7.holds Tryd.pinned (.plain (OpenSpec.ofChange traceSameSpec)) traceSameCard

/-- THE TIED CARD OF 'swathlaw16.TraceFirst'. -/
def traceFirstCard : Claim7 := { stood := { row := traceFirstRow, standIns := [], harness := (true, "75ee6d91a4e2598adffe2ea96b95eecc3dfb48ffa87983154798a9c161b66dbe"), looks := true }, kinds := [], alts := [], laidByText := true, laidKinds := [.data], laidTests := true, laidLooks := .later }
def TraceFirstCardSaid : Prop := Claim7.holds Tryd.pinned (.plain (OpenSpec.ofChange traceFirstSpec)) traceFirstCard

/-- THE SECOND FORM's CARD OF 'swathlaw16.TraceShows'. -/
def traceShowsUptoCard : Claim7 := { stood := { row := traceShowsUptoRow, standIns := [], harness := (true, "75ee6d91a4e2598adffe2ea96b95eecc3dfb48ffa87983154798a9c161b66dbe"), looks := true }, kinds := [], alts := [], laidByText := true, laidKinds := [.data, .data, .data, .data], laidTests := true, laidLooks := .later }
def TraceShowsUptoCardSaid : Prop := Claim7.holds Tryd.pinned (.plain (OpenSpec.upto traceShowsSpec)) traceShowsUptoCard

/-- THE SECOND FORM's CARD OF 'swathlaw16.TraceKinds'. -/
def traceKindsUptoCard : Claim7 := { stood := { row := traceKindsUptoRow, standIns := [], harness := (true, "75ee6d91a4e2598adffe2ea96b95eecc3dfb48ffa87983154798a9c161b66dbe"), looks := true }, kinds := [], alts := [], laidByText := true, laidKinds := [.data], laidTests := true, laidLooks := .later }
def TraceKindsUptoCardSaid : Prop := Claim7.holds Tryd.pinned (.plain (OpenSpec.upto traceKindsSpec)) traceKindsUptoCard

/-- THE SECOND FORM's CARD OF 'swathlaw16.TraceUses'. -/
def traceUsesUptoCard : Claim7 := { stood := { row := traceUsesUptoRow, standIns := [], harness := (true, "75ee6d91a4e2598adffe2ea96b95eecc3dfb48ffa87983154798a9c161b66dbe"), looks := true }, kinds := [], alts := [], laidByText := true, laidKinds := [.data], laidTests := true, laidLooks := .later }
def TraceUsesUptoCardSaid : Prop := Claim7.holds Tryd.pinned (.plain (OpenSpec.upto traceUsesSpec)) traceUsesUptoCard

/-- THE SECOND FORM's CARD OF 'swathlaw16.TraceSame'. -/
def traceSameUptoCard : Claim7 := { stood := { row := traceSameUptoRow, standIns := [], harness := (true, "75ee6d91a4e2598adffe2ea96b95eecc3dfb48ffa87983154798a9c161b66dbe"), looks := true }, kinds := [], alts := [], laidByText := true, laidKinds := [.data], laidTests := true, laidLooks := .later }
def TraceSameUptoCardSaid : Prop := Claim7.holds Tryd.pinned (.plain (OpenSpec.upto traceSameSpec)) traceSameUptoCard

/-- THE SECOND FORM's CARD OF 'swathlaw16.TraceFirst'. -/
def traceFirstUptoCard : Claim7 := { stood := { row := traceFirstUptoRow, standIns := [], harness := (true, "75ee6d91a4e2598adffe2ea96b95eecc3dfb48ffa87983154798a9c161b66dbe"), looks := true }, kinds := [], alts := [], laidByText := true, laidKinds := [.data], laidTests := true, laidLooks := .later }
def TraceFirstUptoCardSaid : Prop := Claim7.holds Tryd.pinned (.plain (OpenSpec.upto traceFirstSpec)) traceFirstUptoCard
end Rows
end Go.Proofs.YtkogfgbgmifcnaaDoor
