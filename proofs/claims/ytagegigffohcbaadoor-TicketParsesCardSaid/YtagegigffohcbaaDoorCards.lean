/-
  DERIVED. GIVEN WITH THE SEED: THE CARDS: each row of YtagegigffohcbaaDoorRows.lean that lists a variable, with what it lists TIED to the program's text (the seventh form; the later family's looks); each row that meets fmt, with fmt's text TOLD by the authors' own Lean function (tested against real Go, not proved from fmt's source: count such statements apart). THE CARD IS WHAT COUNTS. Prove the row's statement (the work); the ties are given (YtagegigffohcbaaDoorTie.lean); close each card by the builder's one call (the guide's Derived/Test/ToyasCard.lean, 'card_holds'). Laid BY PROGRAM, IN A SANDBOX (cutbox-door.mjs). By AI agents, Wed Nov 11 2026. No macro, syntax, notation, axiom, sorry.
-/
import Derived.Test.YtagegigffohcbaaDoorRows
import GoSem.ClaimSeven
namespace Go.Proofs.YtagegigffohcbaaDoor
namespace Rows

/-- THE TIED CARD OF 'tolllaw12.TicketMatchesReference'. -/
def ticketMatchesReferenceCard : Claim7 := { stood := { row := ticketMatchesReferenceRow, standIns := [], harness := (true, "238bc76cc2375e7c74e175bc1515a63be8789634a3fd8beceed04ea171b292c3"), looks := false }, kinds := [], alts := [], laidByText := true, laidKinds := [.data], laidTests := true, laidLooks := .later }
def TicketMatchesReferenceCardSaid : Prop := Claim7.holds Tryd.pinned (.plain (OpenSpec.ofChange ticketMatchesReferenceSpec)) ticketMatchesReferenceCard

/-- THE TIED CARD OF 'tolllaw12.TicketParses'. -/
def ticketParsesCard : Claim7 := { stood := { row := ticketParsesRow, standIns := [], harness := (true, "238bc76cc2375e7c74e175bc1515a63be8789634a3fd8beceed04ea171b292c3"), looks := false }, kinds := [], alts := [], laidByText := true, laidKinds := [.data], laidTests := true, laidLooks := .later }
def TicketParsesCardSaid : Prop := Claim7.holds Tryd.pinned (.plain (OpenSpec.ofChange ticketParsesSpec)) ticketParsesCard

/-- THE SECOND FORM's CARD OF 'tolllaw12.TicketMatchesReference'. -/
def ticketMatchesReferenceUptoCard : Claim7 := { stood := { row := ticketMatchesReferenceUptoRow, standIns := [], harness := (true, "238bc76cc2375e7c74e175bc1515a63be8789634a3fd8beceed04ea171b292c3"), looks := false }, kinds := [], alts := [], laidByText := true, laidKinds := [.data], laidTests := true, laidLooks := .later }
def TicketMatchesReferenceUptoCardSaid : Prop := Claim7.holds Tryd.pinned (.plain (OpenSpec.upto ticketMatchesReferenceSpec)) ticketMatchesReferenceUptoCard

/-- THE SECOND FORM's CARD OF 'tolllaw12.TicketParses'. -/
def ticketParsesUptoCard : Claim7 := { stood := { row := ticketParsesUptoRow, standIns := [], harness := (true, "238bc76cc2375e7c74e175bc1515a63be8789634a3fd8beceed04ea171b292c3"), looks := false }, kinds := [], alts := [], laidByText := true, laidKinds := [.data], laidTests := true, laidLooks := .later }
def TicketParsesUptoCardSaid : Prop := Claim7.holds Tryd.pinned (.plain (OpenSpec.upto ticketParsesSpec)) ticketParsesUptoCard
end Rows
end Go.Proofs.YtagegigffohcbaaDoor
