/-
  DERIVED. GIVEN WITH THE SEED: THE CARDS: each row of YtajdnakpljgkpaaDoorRows.lean that lists a variable, with what it lists TIED to the program's text (the seventh form; the later family's looks); each row that meets fmt, with fmt's text TOLD by the authors' own Lean function (tested against real Go, not proved from fmt's source: count such statements apart). THE CARD IS WHAT COUNTS. Prove the row's statement (the work); the ties are given (YtajdnakpljgkpaaDoorTie.lean); close each card by the builder's one call (the guide's Derived/Test/ToyasCard.lean, 'card_holds'). Laid BY PROGRAM, IN A SANDBOX (cutbox-door.mjs). By AI agents, Wed Nov 11 2026. No macro, syntax, notation, axiom, sorry.
-/
import Derived.Test.YtajdnakpljgkpaaDoorRows
import GoSem.ClaimSeven
namespace Go.Proofs.YtajdnakpljgkpaaDoor
namespace Rows

/-- THE TIED CARD OF 'swathlaw12.LiveTables'. -/
def liveTablesCard : Claim7 := { stood := { row := liveTablesRow, standIns := [], harness := (true, "2490407c7234a2325fc09325d50b478a72e7b7d775814455faaca393e07e6ec2"), looks := false }, kinds := [], alts := [], laidByText := true, laidKinds := [.data, .data, .data], laidTests := true, laidLooks := .later }
def LiveTablesCardSaid : Prop := Claim7.holds Tryd.pinned (.plain (OpenSpec.ofChange liveTablesSpec)) liveTablesCard

/-- THE TIED CARD OF 'swathlaw12.LiveDead'. -/
def liveDeadCard : Claim7 := { stood := { row := liveDeadRow, standIns := [], harness := (true, "2490407c7234a2325fc09325d50b478a72e7b7d775814455faaca393e07e6ec2"), looks := false }, kinds := [], alts := [], laidByText := true, laidKinds := [.data, .data, .data], laidTests := true, laidLooks := .later }
def LiveDeadCardSaid : Prop := Claim7.holds Tryd.pinned (.plain (OpenSpec.ofChange liveDeadSpec)) liveDeadCard

/-- THE TIED CARD OF 'swathlaw12.LiveEnough'. -/
def liveEnoughCard : Claim7 := { stood := { row := liveEnoughRow, standIns := [], harness := (true, "2490407c7234a2325fc09325d50b478a72e7b7d775814455faaca393e07e6ec2"), looks := false }, kinds := [], alts := [], laidByText := true, laidKinds := [.data, .data, .data], laidTests := true, laidLooks := .later }
def LiveEnoughCardSaid : Prop := Claim7.holds Tryd.pinned (.plain (OpenSpec.ofChange liveEnoughSpec)) liveEnoughCard

/-- THE TIED CARD OF 'swathlaw12.LiveEquations'. -/
def liveEquationsCard : Claim7 := { stood := { row := liveEquationsRow, standIns := [], harness := (true, "2490407c7234a2325fc09325d50b478a72e7b7d775814455faaca393e07e6ec2"), looks := false }, kinds := [], alts := [], laidByText := true, laidKinds := [.data, .data, .data], laidTests := true, laidLooks := .later }
def LiveEquationsCardSaid : Prop := Claim7.holds Tryd.pinned (.plain (OpenSpec.ofChange liveEquationsSpec)) liveEquationsCard

/-- THE SECOND FORM's CARD OF 'swathlaw12.LiveTables'. -/
def liveTablesUptoCard : Claim7 := { stood := { row := liveTablesUptoRow, standIns := [], harness := (true, "2490407c7234a2325fc09325d50b478a72e7b7d775814455faaca393e07e6ec2"), looks := false }, kinds := [], alts := [], laidByText := true, laidKinds := [.data, .data, .data], laidTests := true, laidLooks := .later }
def LiveTablesUptoCardSaid : Prop := Claim7.holds Tryd.pinned (.plain (OpenSpec.upto liveTablesSpec)) liveTablesUptoCard

/-- THE SECOND FORM's CARD OF 'swathlaw12.LiveDead'. -/
def liveDeadUptoCard : Claim7 := { stood := { row := liveDeadUptoRow, standIns := [], harness := (true, "2490407c7234a2325fc09325d50b478a72e7b7d775814455faaca393e07e6ec2"), looks := false }, kinds := [], alts := [], laidByText := true, laidKinds := [.data, .data, .data], laidTests := true, laidLooks := .later }
def LiveDeadUptoCardSaid : Prop := Claim7.holds Tryd.pinned (.plain (OpenSpec.upto liveDeadSpec)) liveDeadUptoCard

/-- THE SECOND FORM's CARD OF 'swathlaw12.LiveEnough'. -/
def liveEnoughUptoCard : Claim7 := { stood := { row := liveEnoughUptoRow, standIns := [], harness := (true, "2490407c7234a2325fc09325d50b478a72e7b7d775814455faaca393e07e6ec2"), looks := false }, kinds := [], alts := [], laidByText := true, laidKinds := [.data, .data, .data], laidTests := true, laidLooks := .later }
def LiveEnoughUptoCardSaid : Prop := Claim7.holds Tryd.pinned (.plain (OpenSpec.upto liveEnoughSpec)) liveEnoughUptoCard

/-- THE SECOND FORM's CARD OF 'swathlaw12.LiveEquations'. -/
def liveEquationsUptoCard : Claim7 := { stood := { row := liveEquationsUptoRow, standIns := [], harness := (true, "2490407c7234a2325fc09325d50b478a72e7b7d775814455faaca393e07e6ec2"), looks := false }, kinds := [], alts := [], laidByText := true, laidKinds := [.data, .data, .data], laidTests := true, laidLooks := .later }
def LiveEquationsUptoCardSaid : Prop := Claim7.holds Tryd.pinned (.plain (OpenSpec.upto liveEquationsSpec)) liveEquationsUptoCard
end Rows
end Go.Proofs.YtajdnakpljgkpaaDoor
