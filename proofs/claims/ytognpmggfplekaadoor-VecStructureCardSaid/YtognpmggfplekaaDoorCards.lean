/-
  DERIVED. GIVEN WITH THE SEED: THE CARDS: each row of YtognpmggfplekaaDoorRows.lean that lists a variable, with what it lists TIED to the program's text (the seventh form; the later family's looks); each row that meets fmt, with fmt's text TOLD by the authors' own Lean function (tested against real Go, not proved from fmt's source: count such statements apart). THE CARD IS WHAT COUNTS. Prove the row's statement (the work); the ties are given (YtognpmggfplekaaDoorTie.lean); close each card by the builder's one call (the guide's Derived/Test/ToyasCard.lean, 'card_holds'). Laid BY PROGRAM, IN A SANDBOX (cutbox-door.mjs). By AI agents, Wed Nov 11 2026. No macro, syntax, notation, axiom, sorry.
-/
import Derived.Test.YtognpmggfplekaaDoorRows
import GoSem.ClaimSeven
namespace Go.Proofs.YtognpmggfplekaaDoor
namespace Rows

/-- THE TIED CARD OF 'netlablaw04.VecStructure'. -/
def vecStructureCard : Claim7 := { stood := { row := vecStructureRow, standIns := [], harness := (true, "0d8feca479bdbe9cd3f370da98cd6faeaff9aa3f688350d9496e062233ca9822"), looks := false }, kinds := [], alts := [], laidByText := true, laidKinds := [.data, .data, .data, .data, .data, .data], laidTests := true, laidLooks := .later }
def VecStructureCardSaid : Prop := Claim7.holds Tryd.pinned (.plain (OpenSpec.ofChange vecStructureSpec)) vecStructureCard

/-- THE TIED CARD OF 'netlablaw04.VecCases'. -/
def vecCasesCard : Claim7 := { stood := { row := vecCasesRow, standIns := [], harness := (true, "0d8feca479bdbe9cd3f370da98cd6faeaff9aa3f688350d9496e062233ca9822"), looks := false }, kinds := [], alts := [], laidByText := true, laidKinds := [.data, .data, .data, .data, .data, .data], laidTests := true, laidLooks := .later }
def VecCasesCardSaid : Prop := Claim7.holds Tryd.pinned (.plain (OpenSpec.ofChange vecCasesSpec)) vecCasesCard

/-- THE SECOND FORM's CARD OF 'netlablaw04.VecStructure'. -/
def vecStructureUptoCard : Claim7 := { stood := { row := vecStructureUptoRow, standIns := [], harness := (true, "0d8feca479bdbe9cd3f370da98cd6faeaff9aa3f688350d9496e062233ca9822"), looks := false }, kinds := [], alts := [], laidByText := true, laidKinds := [.data, .data, .data, .data, .data, .data], laidTests := true, laidLooks := .later }
def VecStructureUptoCardSaid : Prop := Claim7.holds Tryd.pinned (.plain (OpenSpec.upto vecStructureSpec)) vecStructureUptoCard

/-- THE SECOND FORM's CARD OF 'netlablaw04.VecCases'. -/
def vecCasesUptoCard : Claim7 := { stood := { row := vecCasesUptoRow, standIns := [], harness := (true, "0d8feca479bdbe9cd3f370da98cd6faeaff9aa3f688350d9496e062233ca9822"), looks := false }, kinds := [], alts := [], laidByText := true, laidKinds := [.data, .data, .data, .data, .data, .data], laidTests := true, laidLooks := .later }
def VecCasesUptoCardSaid : Prop := Claim7.holds Tryd.pinned (.plain (OpenSpec.upto vecCasesSpec)) vecCasesUptoCard
end Rows
end Go.Proofs.YtognpmggfplekaaDoor
