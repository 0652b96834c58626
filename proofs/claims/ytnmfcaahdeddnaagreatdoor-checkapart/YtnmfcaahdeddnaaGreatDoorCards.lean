/-
  DERIVED. GIVEN WITH THE SEED: THE CARDS: each row of YtnmfcaahdeddnaaGreatDoorRows.lean that lists a variable, with what it lists TIED to the program's text (the seventh form; the later family's looks); each row that meets fmt, with fmt's text TOLD by the authors' own Lean function (tested against real Go, not proved from fmt's source: count such statements apart). THE CARD IS WHAT COUNTS. Prove the row's statement (the work); the ties are given (YtnmfcaahdeddnaaGreatDoorTie.lean); close each card by the builder's one call (the guide's Derived/Test/ToyasCard.lean, 'card_holds'). Laid BY PROGRAM, IN A SANDBOX (cutbox-door.mjs). By AI agents, Wed Nov 11 2026. No macro, syntax, notation, axiom, sorry.
-/
import Derived.Test.YtnmfcaahdeddnaaGreatDoorRows
import GoSem.ClaimSeven
namespace Go.Proofs.YtnmfcaahdeddnaaGreatDoor
namespace Rows

/-- THE TIED CARD OF 'swathlaw08.CheckSources'. -/
def checkSourcesCard : Claim7 := { stood := { row := checkSourcesRow, standIns := [], harness := (true, "e963f6464a41c845a0057b536fff259216b90c1988aca7f490c136ebc44d7f1c"), looks := true }, kinds := [], alts := [], laidByText := true, laidKinds := [.data, .data, .data, .data, .data, .pinned], laidTests := true, laidLooks := .later }
def CheckSourcesCardSaid : Prop := Claim7.holds Tryz.pinned (.plain (OpenSpec.ofChange checkSourcesSpec)) checkSourcesCard

/-- THE TIED CARD OF 'swathlaw08.CheckBare'. -/
def checkBareCard : Claim7 := { stood := { row := checkBareRow, standIns := [], harness := (true, "e963f6464a41c845a0057b536fff259216b90c1988aca7f490c136ebc44d7f1c"), looks := true }, kinds := [], alts := [], laidByText := true, laidKinds := [.data, .data, .data, .data, .data, .pinned], laidTests := true, laidLooks := .later }
def CheckBareCardSaid : Prop := Claim7.holds Tryz.pinned (.plain (OpenSpec.ofChange checkBareSpec)) checkBareCard

/-- THE TIED CARD OF 'swathlaw08.CheckFields'. -/
def checkFieldsCard : Claim7 := { stood := { row := checkFieldsRow, standIns := [], harness := (true, "e963f6464a41c845a0057b536fff259216b90c1988aca7f490c136ebc44d7f1c"), looks := true }, kinds := [], alts := [], laidByText := true, laidKinds := [.data, .data, .data, .data, .data, .pinned], laidTests := true, laidLooks := .later }
def CheckFieldsCardSaid : Prop := Claim7.holds Tryz.pinned (.plain (OpenSpec.ofChange checkFieldsSpec)) checkFieldsCard

/-- THE TIED CARD OF 'swathlaw08.CheckApart'. -/
def checkApartCard : Claim7 := { stood := { row := checkApartRow, standIns := [], harness := (true, "e963f6464a41c845a0057b536fff259216b90c1988aca7f490c136ebc44d7f1c"), looks := true }, kinds := [], alts := [], laidByText := true, laidKinds := [.data, .data, .data, .data, .data, .pinned], laidTests := true, laidLooks := .later }
def CheckApartCardSaid : Prop := Claim7.holds Tryz.pinned (.plain (OpenSpec.ofChange checkApartSpec)) checkApartCard

/-- THE SECOND FORM's CARD OF 'swathlaw08.CheckSources'. -/
def checkSourcesUptoCard : Claim7 := { stood := { row := checkSourcesUptoRow, standIns := [], harness := (true, "e963f6464a41c845a0057b536fff259216b90c1988aca7f490c136ebc44d7f1c"), looks := true }, kinds := [], alts := [], laidByText := true, laidKinds := [.data, .data, .data, .data, .data, .pinned], laidTests := true, laidLooks := .later }
def CheckSourcesUptoCardSaid : Prop := Claim7.holds Tryz.pinned (.plain (OpenSpec.upto checkSourcesSpec)) checkSourcesUptoCard

/-- THE SECOND FORM's CARD OF 'swathlaw08.CheckBare'. -/
def checkBareUptoCard : Claim7 := { stood := { row := checkBareUptoRow, standIns := [], harness := (true, "e963f6464a41c845a0057b536fff259216b90c1988aca7f490c136ebc44d7f1c"), looks := true }, kinds := [], alts := [], laidByText := true, laidKinds := [.data, .data, .data, .data, .data, .pinned], laidTests := true, laidLooks := .later }
def CheckBareUptoCardSaid : Prop := Claim7.holds Tryz.pinned (.plain (OpenSpec.upto checkBareSpec)) checkBareUptoCard

/-- THE SECOND FORM's CARD OF 'swathlaw08.CheckFields'. -/
def checkFieldsUptoCard : Claim7 := { stood := { row := checkFieldsUptoRow, standIns := [], harness := (true, "e963f6464a41c845a0057b536fff259216b90c1988aca7f490c136ebc44d7f1c"), looks := true }, kinds := [], alts := [], laidByText := true, laidKinds := [.data, .data, .data, .data, .data, .pinned], laidTests := true, laidLooks := .later }
def CheckFieldsUptoCardSaid : Prop := Claim7.holds Tryz.pinned (.plain (OpenSpec.upto checkFieldsSpec)) checkFieldsUptoCard

/-- THE SECOND FORM's CARD OF 'swathlaw08.CheckApart'. -/
def checkApartUptoCard : Claim7 := { stood := { row := checkApartUptoRow, standIns := [], harness := (true, "e963f6464a41c845a0057b536fff259216b90c1988aca7f490c136ebc44d7f1c"), looks := true }, kinds := [], alts := [], laidByText := true, laidKinds := [.data, .data, .data, .data, .data, .pinned], laidTests := true, laidLooks := .later }
def CheckApartUptoCardSaid : Prop := Claim7.holds Tryz.pinned (.plain (OpenSpec.upto checkApartSpec)) checkApartUptoCard
end Rows
end Go.Proofs.YtnmfcaahdeddnaaGreatDoor
