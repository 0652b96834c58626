/-
  DERIVED. GIVEN WITH THE SEED: THE CARDS: each row of YtkjkpkmmojchiaaGreatDoorRows.lean that lists a variable, with what it lists TIED to the program's text (the seventh form; the later family's looks); each row that meets fmt, with fmt's text TOLD by the authors' own Lean function (tested against real Go, not proved from fmt's source: count such statements apart). THE CARD IS WHAT COUNTS. Prove the row's statement (the work); the ties are given (YtkjkpkmmojchiaaGreatDoorTie.lean); close each card by the builder's one call (the guide's Derived/Test/ToyasCard.lean, 'card_holds'). Laid BY PROGRAM, IN A SANDBOX (cutbox-door.mjs). By AI agents, Wed Nov 11 2026. No macro, syntax, notation, axiom, sorry.
-/
import Derived.Test.YtkjkpkmmojchiaaGreatDoorRows
import GoSem.ClaimSeven
namespace Go.Proofs.YtkjkpkmmojchiaaGreatDoor
namespace Rows

/-- THE TIED CARD OF 'swathlaw13.InterpRuns'. -/
def interpRunsCard : Claim7 := { stood := { row := interpRunsRow, standIns := [], harness := (true, "ea6cbcd2f2c98781fb24cac1aa54c0e67088c80658d359f05bfe40e4c07a0d7d"), looks := true }, kinds := [], alts := [], laidByText := true, laidKinds := [.data], laidTests := true, laidLooks := .later }
def InterpRunsCardSaid : Prop := Claim7.holds Tryz.pinned (.plain (OpenSpec.ofChange interpRunsSpec)) interpRunsCard

/-- THE TIED CARD OF 'swathlaw13.InterpSteps'. -/
def interpStepsCard : Claim7 := { stood := { row := interpStepsRow, standIns := [], harness := (true, "ea6cbcd2f2c98781fb24cac1aa54c0e67088c80658d359f05bfe40e4c07a0d7d"), looks := true }, kinds := [], alts := [], laidByText := true, laidKinds := [.data], laidTests := true, laidLooks := .later }
def InterpStepsCardSaid : Prop := Claim7.holds Tryz.pinned (.plain (OpenSpec.ofChange interpStepsSpec)) interpStepsCard

/-- THE TIED CARD OF 'swathlaw13.InterpFrames'. -/
def interpFramesCard : Claim7 := { stood := { row := interpFramesRow, standIns := [], harness := (true, "ea6cbcd2f2c98781fb24cac1aa54c0e67088c80658d359f05bfe40e4c07a0d7d"), looks := true }, kinds := [], alts := [], laidByText := true, laidKinds := [.data], laidTests := true, laidLooks := .later }
def InterpFramesCardSaid : Prop := Claim7.holds Tryz.pinned (.plain (OpenSpec.ofChange interpFramesSpec)) interpFramesCard

/-- THE TIED CARD OF 'swathlaw13.InterpAsks'. -/
def interpAsksCard : Claim7 := { stood := { row := interpAsksRow, standIns := [], harness := (true, "ea6cbcd2f2c98781fb24cac1aa54c0e67088c80658d359f05bfe40e4c07a0d7d"), looks := true }, kinds := [], alts := [], laidByText := true, laidKinds := [.data], laidTests := true, laidLooks := .later }
def InterpAsksCardSaid : Prop := Claim7.holds Tryz.pinned (.plain (OpenSpec.ofChange interpAsksSpec)) interpAsksCard

/-- THE TIED CARD OF 'swathlaw13.InterpNone'. -/
def interpNoneCard : Claim7 := { stood := { row := interpNoneRow, standIns := [], harness := (true, "ea6cbcd2f2c98781fb24cac1aa54c0e67088c80658d359f05bfe40e4c07a0d7d"), looks := true }, kinds := [], alts := [], laidByText := true, laidKinds := [.data], laidTests := true, laidLooks := .later }
def InterpNoneCardSaid : Prop := Claim7.holds Tryz.pinned (.plain (OpenSpec.ofChange interpNoneSpec)) interpNoneCard

/-- THE SECOND FORM's CARD OF 'swathlaw13.InterpRuns'. -/
def interpRunsUptoCard : Claim7 := { stood := { row := interpRunsUptoRow, standIns := [], harness := (true, "ea6cbcd2f2c98781fb24cac1aa54c0e67088c80658d359f05bfe40e4c07a0d7d"), looks := true }, kinds := [], alts := [], laidByText := true, laidKinds := [.data], laidTests := true, laidLooks := .later }
def InterpRunsUptoCardSaid : Prop := Claim7.holds Tryz.pinned (.plain (OpenSpec.upto interpRunsSpec)) interpRunsUptoCard

/-- THE SECOND FORM's CARD OF 'swathlaw13.InterpSteps'. -/
def interpStepsUptoCard : Claim7 := { stood := { row := interpStepsUptoRow, standIns := [], harness := (true, "ea6cbcd2f2c98781fb24cac1aa54c0e67088c80658d359f05bfe40e4c07a0d7d"), looks := true }, kinds := [], alts := [], laidByText := true, laidKinds := [.data], laidTests := true, laidLooks := .later }
def InterpStepsUptoCardSaid : Prop := Claim7.holds Tryz.pinned (.plain (OpenSpec.upto interpStepsSpec)) interpStepsUptoCard

/-- THE SECOND FORM's CARD OF 'swathlaw13.InterpFrames'. -/
def interpFramesUptoCard : Claim7 := { stood := { row := interpFramesUptoRow, standIns := [], harness := (true, "ea6cbcd2f2c98781fb24cac1aa54c0e67088c80658d359f05bfe40e4c07a0d7d"), looks := true }, kinds := [], alts := [], laidByText := true, laidKinds := [.data], laidTests := true, laidLooks := .later }
def InterpFramesUptoCardSaid : Prop := Claim7.holds Tryz.pinned (.plain (OpenSpec.upto interpFramesSpec)) interpFramesUptoCard

/-- THE SECOND FORM's CARD OF 'swathlaw13.InterpAsks'. -/
def interpAsksUptoCard : Claim7 := { stood := { row := interpAsksUptoRow, standIns := [], harness := (true, "ea6cbcd2f2c98781fb24cac1aa54c0e67088c80658d359f05bfe40e4c07a0d7d"), looks := true }, kinds := [], alts := [], laidByText := true, laidKinds := [.data], laidTests := true, laidLooks := .later }
def InterpAsksUptoCardSaid : Prop := Claim7.holds Tryz.pinned (.plain (OpenSpec.upto interpAsksSpec)) interpAsksUptoCard

/-- THE SECOND FORM's CARD OF 'swathlaw13.InterpNone'. -/
def interpNoneUptoCard : Claim7 := { stood := { row := interpNoneUptoRow, standIns := [], harness := (true, "ea6cbcd2f2c98781fb24cac1aa54c0e67088c80658d359f05bfe40e4c07a0d7d"), looks := true }, kinds := [], alts := [], laidByText := true, laidKinds := [.data], laidTests := true, laidLooks := .later }
def InterpNoneUptoCardSaid : Prop := Claim7.holds Tryz.pinned (.plain (OpenSpec.upto interpNoneSpec)) interpNoneUptoCard
end Rows
end Go.Proofs.YtkjkpkmmojchiaaGreatDoor
