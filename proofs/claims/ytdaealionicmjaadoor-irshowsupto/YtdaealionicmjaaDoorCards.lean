/-
  DERIVED. GIVEN WITH THE SEED: THE CARDS: each row of YtdaealionicmjaaDoorRows.lean that lists a variable, with what it lists TIED to the program's text (the seventh form; the later family's looks); each row that meets fmt, with fmt's text TOLD by the authors' own Lean function (tested against real Go, not proved from fmt's source: count such statements apart). THE CARD IS WHAT COUNTS. Prove the row's statement (the work); the ties are given (YtdaealionicmjaaDoorTie.lean); close each card by the builder's one call (the guide's Derived/Test/ToyasCard.lean, 'card_holds'). Laid BY PROGRAM, IN A SANDBOX (cutbox-door.mjs). By AI agents, Wed Nov 11 2026. No macro, syntax, notation, axiom, sorry.
-/
import Derived.Test.YtdaealionicmjaaDoorRows
import GoSem.ClaimSeven
namespace Go.Proofs.YtdaealionicmjaaDoor
namespace Rows

/-- THE TIED CARD OF 'swathlaw10.IrChecks'. -/
def irChecksCard : Claim7 := { stood := { row := irChecksRow, standIns := [], harness := (true, "36887206e2c633b5a1a465d6ea3cdd05b91f7a1ce8765bdeff1fae21e60e0e19"), looks := true }, kinds := [], alts := [], laidByText := true, laidKinds := [.data, .data, .data], laidTests := true, laidLooks := .later }
def IrChecksCardSaid : Prop := Claim7.holds Tryd.pinned (.plain (OpenSpec.ofChange irChecksSpec)) irChecksCard

/-- THE TIED CARD OF 'swathlaw10.IrShows'. -/
def irShowsCard : Claim7 := { stood := { row := irShowsRow, standIns := [], harness := (true, "36887206e2c633b5a1a465d6ea3cdd05b91f7a1ce8765bdeff1fae21e60e0e19"), looks := true }, kinds := [], alts := [], laidByText := true, laidKinds := [.data, .data, .data, .data, .data, .data, .data], laidTests := true, laidLooks := .later }
def IrShowsCardSaid : Prop := Claim7.holds Tryd.pinned (.plain (OpenSpec.ofChange irShowsSpec)) irShowsCard

/-- THE TIED CARD OF 'swathlaw10.IrUses'. -/
def irUsesCard : Claim7 := { stood := { row := irUsesRow, standIns := [], harness := (true, "36887206e2c633b5a1a465d6ea3cdd05b91f7a1ce8765bdeff1fae21e60e0e19"), looks := true }, kinds := [], alts := [], laidByText := true, laidKinds := [.data, .data, .data], laidTests := true, laidLooks := .later }
def IrUsesCardSaid : Prop := Claim7.holds Tryd.pinned (.plain (OpenSpec.ofChange irUsesSpec)) irUsesCard

/-- THE TIED CARD OF 'swathlaw10.IrNext'. -/
def irNextCard : Claim7 := { stood := { row := irNextRow, standIns := [], harness := (true, "36887206e2c633b5a1a465d6ea3cdd05b91f7a1ce8765bdeff1fae21e60e0e19"), looks := true }, kinds := [], alts := [], laidByText := true, laidKinds := [.data, .data, .data], laidTests := true, laidLooks := .later }
def IrNextCardSaid : Prop := Claim7.holds Tryd.pinned (.plain (OpenSpec.ofChange irNextSpec)) irNextCard

/-- THE TIED CARD OF 'swathlaw10.IrSame'. -/
def irSameCard : Claim7 := { stood := { row := irSameRow, standIns := [], harness := (true, "36887206e2c633b5a1a465d6ea3cdd05b91f7a1ce8765bdeff1fae21e60e0e19"), looks := true }, kinds := [], alts := [], laidByText := true, laidKinds := [.data, .data, .data], laidTests := true, laidLooks := .later }
def IrSameCardSaid : Prop := Claim7.holds Tryd.pinned (.plain (OpenSpec.ofChange irSameSpec)) irSameCard

/-- THE SECOND FORM's CARD OF 'swathlaw10.IrChecks'. -/
def irChecksUptoCard : Claim7 := { stood := { row := irChecksUptoRow, standIns := [], harness := (true, "36887206e2c633b5a1a465d6ea3cdd05b91f7a1ce8765bdeff1fae21e60e0e19"), looks := true }, kinds := [], alts := [], laidByText := true, laidKinds := [.data, .data, .data], laidTests := true, laidLooks := .later }
def IrChecksUptoCardSaid : Prop := Claim7.holds Tryd.pinned (.plain (OpenSpec.upto irChecksSpec)) irChecksUptoCard

/-- THE SECOND FORM's CARD OF 'swathlaw10.IrShows'. -/
def irShowsUptoCard : Claim7 := { stood := { row := irShowsUptoRow, standIns := [], harness := (true, "36887206e2c633b5a1a465d6ea3cdd05b91f7a1ce8765bdeff1fae21e60e0e19"), looks := true }, kinds := [], alts := [], laidByText := true, laidKinds := [.data, .data, .data, .data, .data, .data, .data], laidTests := true, laidLooks := .later }
def IrShowsUptoCardSaid : Prop := Claim7.holds Tryd.pinned (.plain (OpenSpec.upto irShowsSpec)) irShowsUptoCard

/-- THE SECOND FORM's CARD OF 'swathlaw10.IrUses'. -/
def irUsesUptoCard : Claim7 := { stood := { row := irUsesUptoRow, standIns := [], harness := (true, "36887206e2c633b5a1a465d6ea3cdd05b91f7a1ce8765bdeff1fae21e60e0e19"), looks := true }, kinds := [], alts := [], laidByText := true, laidKinds := [.data, .data, .data], laidTests := true, laidLooks := .later }
def IrUsesUptoCardSaid : Prop := Claim7.holds Tryd.pinned (.plain (OpenSpec.upto irUsesSpec)) irUsesUptoCard

/-- THE SECOND FORM's CARD OF 'swathlaw10.IrNext'. -/
def irNextUptoCard : Claim7 := { stood := { row := irNextUptoRow, standIns := [], harness := (true, "36887206e2c633b5a1a465d6ea3cdd05b91f7a1ce8765bdeff1fae21e60e0e19"), looks := true }, kinds := [], alts := [], laidByText := true, laidKinds := [.data, .data, .data], laidTests := true, laidLooks := .later }
def IrNextUptoCardSaid : Prop := Claim7.holds Tryd.pinned (.plain (OpenSpec.upto irNextSpec)) irNextUptoCard

/-- THE SECOND FORM's CARD OF 'swathlaw10.IrSame'. -/
def irSameUptoCard : Claim7 := { stood := { row := irSameUptoRow, standIns := [], harness := (true, "36887206e2c633b5a1a465d6ea3cdd05b91f7a1ce8765bdeff1fae21e60e0e19"), looks := true }, kinds := [], alts := [], laidByText := true, laidKinds := [.data, .data, .data], laidTests := true, laidLooks := .later }
def IrSameUptoCardSaid : Prop := Claim7.holds Tryd.pinned (.plain (OpenSpec.upto irSameSpec)) irSameUptoCard
end Rows
end Go.Proofs.YtdaealionicmjaaDoor
