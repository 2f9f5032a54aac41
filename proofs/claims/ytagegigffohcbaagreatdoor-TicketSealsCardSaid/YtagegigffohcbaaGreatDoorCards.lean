/-
  DERIVED. GIVEN WITH THE SEED: THE CARDS: each row of YtagegigffohcbaaGreatDoorRows.lean that lists a variable, with what it lists TIED to the program's text (the seventh form; the later family's looks); each row that meets fmt, with fmt's text TOLD by the authors' own Lean function (tested against real Go, not proved from fmt's source: count such statements apart). THE CARD IS WHAT COUNTS. Prove the row's statement (the work); the ties are given (YtagegigffohcbaaGreatDoorTie.lean); close each card by the builder's one call (the guide's Derived/Test/ToyasCard.lean, 'card_holds'). Laid BY PROGRAM, IN A SANDBOX (cutbox-door.mjs). By AI agents, Wed Nov 11 2026. No macro, syntax, notation, axiom, sorry.
-/
import Derived.Test.YtagegigffohcbaaGreatDoorRows
import GoSem.ClaimSeven
namespace Go.Proofs.YtagegigffohcbaaGreatDoor
namespace Rows

/-- THE TIED CARD OF 'tolllaw12.TicketSeals'. -/
def ticketSealsCard : Claim7 := { stood := { row := ticketSealsRow, standIns := [], harness := (true, "43bb3da7a972f3ccd08b6775a69d59ef93a862bb7fdfde45466ed2ea2e87b7b7"), looks := false }, kinds := [], alts := [], laidByText := true, laidKinds := [.data], laidTests := true, laidLooks := .later }
def TicketSealsCardSaid : Prop := Claim7.holds Tryz.pinned (.plain (OpenSpec.ofChange ticketSealsSpec)) ticketSealsCard

/-- THE TIED CARD OF 'tolllaw12.TicketOpens'. -/
def ticketOpensCard : Claim7 := { stood := { row := ticketOpensRow, standIns := [], harness := (true, "43bb3da7a972f3ccd08b6775a69d59ef93a862bb7fdfde45466ed2ea2e87b7b7"), looks := false }, kinds := [], alts := [], laidByText := true, laidKinds := [.data], laidTests := true, laidLooks := .later }
def TicketOpensCardSaid : Prop := Claim7.holds Tryz.pinned (.plain (OpenSpec.ofChange ticketOpensSpec)) ticketOpensCard

/-- THE SECOND FORM's CARD OF 'tolllaw12.TicketSeals'. -/
def ticketSealsUptoCard : Claim7 := { stood := { row := ticketSealsUptoRow, standIns := [], harness := (true, "43bb3da7a972f3ccd08b6775a69d59ef93a862bb7fdfde45466ed2ea2e87b7b7"), looks := false }, kinds := [], alts := [], laidByText := true, laidKinds := [.data], laidTests := true, laidLooks := .later }
def TicketSealsUptoCardSaid : Prop := Claim7.holds Tryz.pinned (.plain (OpenSpec.upto ticketSealsSpec)) ticketSealsUptoCard

/-- THE SECOND FORM's CARD OF 'tolllaw12.TicketOpens'. -/
def ticketOpensUptoCard : Claim7 := { stood := { row := ticketOpensUptoRow, standIns := [], harness := (true, "43bb3da7a972f3ccd08b6775a69d59ef93a862bb7fdfde45466ed2ea2e87b7b7"), looks := false }, kinds := [], alts := [], laidByText := true, laidKinds := [.data], laidTests := true, laidLooks := .later }
def TicketOpensUptoCardSaid : Prop := Claim7.holds Tryz.pinned (.plain (OpenSpec.upto ticketOpensSpec)) ticketOpensUptoCard
end Rows
end Go.Proofs.YtagegigffohcbaaGreatDoor
