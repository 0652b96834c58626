/-
  DERIVED. GIVEN WITH THE SEED: THE CARDS: each row of YtekjfddcbcijdaaGreatDoorRows.lean that lists a variable, with what it lists TIED to the program's text (the seventh form; the later family's looks); each row that meets fmt, with fmt's text TOLD by the authors' own Lean function (tested against real Go, not proved from fmt's source: count such statements apart). THE CARD IS WHAT COUNTS. Prove the row's statement (the work); the ties are given (YtekjfddcbcijdaaGreatDoorTie.lean); close each card by the builder's one call (the guide's Derived/Test/ToyasCard.lean, 'card_holds'). Laid BY PROGRAM, IN A SANDBOX (cutbox-door.mjs). By AI agents, Wed Nov 11 2026. No macro, syntax, notation, axiom, sorry.
-/
import Derived.Test.YtekjfddcbcijdaaGreatDoorRows
import GoSem.ClaimSeven
namespace Go.Proofs.YtekjfddcbcijdaaGreatDoor
namespace Rows

/-- THE TIED CARD OF 'swathlaw06.ParseMoves'. -/
def parseMovesCard : Claim7 := { stood := { row := parseMovesRow, standIns := [], harness := (true, "d0849269282e0d45432d83b3081ae683ef170acd4be92297835a572b4fb911ed"), looks := true }, kinds := [], alts := [], laidByText := true, laidKinds := [.data, .data, .data, .data, .data], laidTests := true, laidLooks := .later }
def ParseMovesCardSaid : Prop := Claim7.holds Tryz.pinned (.plain (OpenSpec.ofChange parseMovesSpec)) parseMovesCard

/-- THE SECOND FORM's CARD OF 'swathlaw06.ParseMoves'. -/
def parseMovesUptoCard : Claim7 := { stood := { row := parseMovesUptoRow, standIns := [], harness := (true, "d0849269282e0d45432d83b3081ae683ef170acd4be92297835a572b4fb911ed"), looks := true }, kinds := [], alts := [], laidByText := true, laidKinds := [.data, .data, .data, .data, .data], laidTests := true, laidLooks := .later }
def ParseMovesUptoCardSaid : Prop := Claim7.holds Tryz.pinned (.plain (OpenSpec.upto parseMovesSpec)) parseMovesUptoCard
end Rows
end Go.Proofs.YtekjfddcbcijdaaGreatDoor
