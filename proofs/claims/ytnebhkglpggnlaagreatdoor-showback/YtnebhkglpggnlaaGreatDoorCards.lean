/-
  DERIVED. GIVEN WITH THE SEED: THE CARDS: each row of YtnebhkglpggnlaaGreatDoorRows.lean that lists a variable, with what it lists TIED to the program's text (the seventh form; the later family's looks); each row that meets fmt, with fmt's text TOLD by the authors' own Lean function (tested against real Go, not proved from fmt's source: count such statements apart). THE CARD IS WHAT COUNTS. Prove the row's statement (the work); the ties are given (YtnebhkglpggnlaaGreatDoorTie.lean); close each card by the builder's one call (the guide's Derived/Test/ToyasCard.lean, 'card_holds'). Laid BY PROGRAM, IN A SANDBOX (cutbox-door.mjs). By AI agents, Wed Nov 11 2026. No macro, syntax, notation, axiom, sorry.
-/
import Derived.Test.YtnebhkglpggnlaaGreatDoorRows
import GoSem.ClaimSeven
namespace Go.Proofs.YtnebhkglpggnlaaGreatDoor
namespace Rows

/-- THE TIED CARD OF 'swathlaw07.ShowPrograms'. -/
def showProgramsCard : Claim7 := { stood := { row := showProgramsRow, standIns := [], harness := (true, "21162b7214348acb12f117d76719680c09ed403d8066de12a390fee4aebbd5d9"), looks := true }, kinds := [], alts := [], laidByText := true, laidKinds := [.data, .data, .data, .data, .pinned], laidTests := true, laidLooks := .later }
def ShowProgramsCardSaid : Prop := Claim7.holds Tryz.pinned (.plain (OpenSpec.ofChange showProgramsSpec)) showProgramsCard

/-- THE TIED CARD OF 'swathlaw07.ShowLisp'. -/
def showLispCard : Claim7 := { stood := { row := showLispRow, standIns := [], harness := (true, "21162b7214348acb12f117d76719680c09ed403d8066de12a390fee4aebbd5d9"), looks := true }, kinds := [], alts := [], laidByText := true, laidKinds := [.data, .data, .data, .data, .pinned], laidTests := true, laidLooks := .later }
def ShowLispCardSaid : Prop := Claim7.holds Tryz.pinned (.plain (OpenSpec.ofChange showLispSpec)) showLispCard

/-- THE TIED CARD OF 'swathlaw07.ShowBack'. -/
def showBackCard : Claim7 := { stood := { row := showBackRow, standIns := [], harness := (true, "21162b7214348acb12f117d76719680c09ed403d8066de12a390fee4aebbd5d9"), looks := true }, kinds := [], alts := [], laidByText := true, laidKinds := [.data, .data, .data, .data, .pinned], laidTests := true, laidLooks := .later }
def ShowBackCardSaid : Prop := Claim7.holds Tryz.pinned (.plain (OpenSpec.ofChange showBackSpec)) showBackCard

/-- THE SECOND FORM's CARD OF 'swathlaw07.ShowPrograms'. -/
def showProgramsUptoCard : Claim7 := { stood := { row := showProgramsUptoRow, standIns := [], harness := (true, "21162b7214348acb12f117d76719680c09ed403d8066de12a390fee4aebbd5d9"), looks := true }, kinds := [], alts := [], laidByText := true, laidKinds := [.data, .data, .data, .data, .pinned], laidTests := true, laidLooks := .later }
def ShowProgramsUptoCardSaid : Prop := Claim7.holds Tryz.pinned (.plain (OpenSpec.upto showProgramsSpec)) showProgramsUptoCard

/-- THE SECOND FORM's CARD OF 'swathlaw07.ShowLisp'. -/
def showLispUptoCard : Claim7 := { stood := { row := showLispUptoRow, standIns := [], harness := (true, "21162b7214348acb12f117d76719680c09ed403d8066de12a390fee4aebbd5d9"), looks := true }, kinds := [], alts := [], laidByText := true, laidKinds := [.data, .data, .data, .data, .pinned], laidTests := true, laidLooks := .later }
def ShowLispUptoCardSaid : Prop := Claim7.holds Tryz.pinned (.plain (OpenSpec.upto showLispSpec)) showLispUptoCard

/-- THE SECOND FORM's CARD OF 'swathlaw07.ShowBack'. -/
def showBackUptoCard : Claim7 := { stood := { row := showBackUptoRow, standIns := [], harness := (true, "21162b7214348acb12f117d76719680c09ed403d8066de12a390fee4aebbd5d9"), looks := true }, kinds := [], alts := [], laidByText := true, laidKinds := [.data, .data, .data, .data, .pinned], laidTests := true, laidLooks := .later }
def ShowBackUptoCardSaid : Prop := Claim7.holds Tryz.pinned (.plain (OpenSpec.upto showBackSpec)) showBackUptoCard
end Rows
end Go.Proofs.YtnebhkglpggnlaaGreatDoor
