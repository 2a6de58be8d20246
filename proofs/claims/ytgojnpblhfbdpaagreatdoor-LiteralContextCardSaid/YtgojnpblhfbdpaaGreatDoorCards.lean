/-
  DERIVED. GIVEN WITH THE SEED: THE CARDS: each row of YtgojnpblhfbdpaaGreatDoorRows.lean that lists a variable, with what it lists TIED to the program's text (the seventh form; the later family's looks); each row that meets fmt, with fmt's text TOLD by the authors' own Lean function (tested against real Go, not proved from fmt's source: count such statements apart). THE CARD IS WHAT COUNTS. Prove the row's statement (the work); the ties are given (YtgojnpblhfbdpaaGreatDoorTie.lean); close each card by the builder's one call (the guide's Derived/Test/ToyasCard.lean, 'card_holds'). Laid BY PROGRAM, IN A SANDBOX (cutbox-door.mjs). By AI agents, Wed Nov 11 2026. No macro, syntax, notation, axiom, sorry.
-/
import Derived.Test.YtgojnpblhfbdpaaGreatDoorRows
import GoSem.ClaimSeven
namespace Go.Proofs.YtgojnpblhfbdpaaGreatDoor
namespace Rows

/-- THE TIED CARD OF 'netlablaw05.LiteralMatches'. -/
def literalMatchesCard : Claim7 := { stood := { row := literalMatchesRow, standIns := [], harness := (true, "db9aa0b334ebc23ee8f04da9892cbe1aba93e0385f15bb253a2679a29a117d12"), looks := true }, kinds := [], alts := [], laidByText := true, laidKinds := [.data, .data, .data, .data, .data, .sentinel, .sentinel, .pinned, .pinned], laidTests := true, laidLooks := .later }
def LiteralMatchesCardSaid : Prop := Claim7.holds Tryz.pinned (.plain (OpenSpec.ofChange literalMatchesSpec)) literalMatchesCard

/-- THE TIED CARD OF 'netlablaw05.LiteralFormatMatches'. -/
def literalFormatMatchesCard : Claim7 := { stood := { row := literalFormatMatchesRow, standIns := [], harness := (true, "db9aa0b334ebc23ee8f04da9892cbe1aba93e0385f15bb253a2679a29a117d12"), looks := true }, kinds := [], alts := [], laidByText := true, laidKinds := [.data, .data, .data, .data, .data, .sentinel, .sentinel, .pinned, .pinned], laidTests := true, laidLooks := .later }
def LiteralFormatMatchesCardSaid : Prop := Claim7.holds Tryz.pinned (.plain (OpenSpec.ofChange literalFormatMatchesSpec)) literalFormatMatchesCard

/-- THE TIED CARD OF 'netlablaw05.LiteralExamples'. -/
def literalExamplesCard : Claim7 := { stood := { row := literalExamplesRow, standIns := [], harness := (true, "db9aa0b334ebc23ee8f04da9892cbe1aba93e0385f15bb253a2679a29a117d12"), looks := true }, kinds := [], alts := [], laidByText := true, laidKinds := [.data, .data, .data, .data, .data, .sentinel, .sentinel, .pinned, .pinned], laidTests := true, laidLooks := .later }
def LiteralExamplesCardSaid : Prop := Claim7.holds Tryz.pinned (.plain (OpenSpec.ofChange literalExamplesSpec)) literalExamplesCard

/-- THE TIED CARD OF 'netlablaw05.LiteralRoundTrip'. -/
def literalRoundTripCard : Claim7 := { stood := { row := literalRoundTripRow, standIns := [], harness := (true, "db9aa0b334ebc23ee8f04da9892cbe1aba93e0385f15bb253a2679a29a117d12"), looks := true }, kinds := [], alts := [], laidByText := true, laidKinds := [.data, .data, .data, .data, .data, .sentinel, .sentinel, .pinned, .pinned], laidTests := true, laidLooks := .later }
def LiteralRoundTripCardSaid : Prop := Claim7.holds Tryz.pinned (.plain (OpenSpec.ofChange literalRoundTripSpec)) literalRoundTripCard

/-- THE TIED CARD OF 'netlablaw05.LiteralCanonical'. -/
def literalCanonicalCard : Claim7 := { stood := { row := literalCanonicalRow, standIns := [], harness := (true, "db9aa0b334ebc23ee8f04da9892cbe1aba93e0385f15bb253a2679a29a117d12"), looks := true }, kinds := [], alts := [], laidByText := true, laidKinds := [.data, .data, .data, .data, .data, .sentinel, .sentinel, .pinned, .pinned], laidTests := true, laidLooks := .later }
def LiteralCanonicalCardSaid : Prop := Claim7.holds Tryz.pinned (.plain (OpenSpec.ofChange literalCanonicalSpec)) literalCanonicalCard

/-- THE TIED CARD OF 'netlablaw05.LiteralUnderscores'. -/
def literalUnderscoresCard : Claim7 := { stood := { row := literalUnderscoresRow, standIns := [], harness := (true, "db9aa0b334ebc23ee8f04da9892cbe1aba93e0385f15bb253a2679a29a117d12"), looks := true }, kinds := [], alts := [], laidByText := true, laidKinds := [.data, .data, .data, .data, .data, .sentinel, .sentinel, .pinned, .pinned], laidTests := true, laidLooks := .later }
def LiteralUnderscoresCardSaid : Prop := Claim7.holds Tryz.pinned (.plain (OpenSpec.ofChange literalUnderscoresSpec)) literalUnderscoresCard

/-- THE TIED CARD OF 'netlablaw05.LiteralContext'. -/
def literalContextCard : Claim7 := { stood := { row := literalContextRow, standIns := [], harness := (true, "db9aa0b334ebc23ee8f04da9892cbe1aba93e0385f15bb253a2679a29a117d12"), looks := true }, kinds := [], alts := [], laidByText := true, laidKinds := [.data, .data, .data, .data, .data, .sentinel, .sentinel, .pinned, .pinned], laidTests := true, laidLooks := .later }
def LiteralContextCardSaid : Prop := Claim7.holds Tryz.pinned (.plain (OpenSpec.ofChange literalContextSpec)) literalContextCard

/-- THE TIED CARD OF 'netlablaw05.LiteralSizes'. -/
def literalSizesCard : Claim7 := { stood := { row := literalSizesRow, standIns := [], harness := (true, "db9aa0b334ebc23ee8f04da9892cbe1aba93e0385f15bb253a2679a29a117d12"), looks := true }, kinds := [], alts := [], laidByText := true, laidKinds := [.data, .data, .data, .data, .data, .sentinel, .sentinel, .pinned, .pinned], laidTests := true, laidLooks := .later }
def LiteralSizesCardSaid : Prop := Claim7.holds Tryz.pinned (.plain (OpenSpec.ofChange literalSizesSpec)) literalSizesCard

/-- THE TIED CARD OF 'netlablaw05.LiteralDigits'. -/
def literalDigitsCard : Claim7 := { stood := { row := literalDigitsRow, standIns := [], harness := (true, "db9aa0b334ebc23ee8f04da9892cbe1aba93e0385f15bb253a2679a29a117d12"), looks := true }, kinds := [], alts := [], laidByText := true, laidKinds := [.data, .data, .data, .data, .data, .sentinel, .sentinel, .pinned, .pinned], laidTests := true, laidLooks := .later }
def LiteralDigitsCardSaid : Prop := Claim7.holds Tryz.pinned (.plain (OpenSpec.ofChange literalDigitsSpec)) literalDigitsCard

/-- THE SECOND FORM's CARD OF 'netlablaw05.LiteralMatches'. -/
def literalMatchesUptoCard : Claim7 := { stood := { row := literalMatchesUptoRow, standIns := [], harness := (true, "db9aa0b334ebc23ee8f04da9892cbe1aba93e0385f15bb253a2679a29a117d12"), looks := true }, kinds := [], alts := [], laidByText := true, laidKinds := [.data, .data, .data, .data, .data, .sentinel, .sentinel, .pinned, .pinned], laidTests := true, laidLooks := .later }
def LiteralMatchesUptoCardSaid : Prop := Claim7.holds Tryz.pinned (.plain (OpenSpec.upto literalMatchesSpec)) literalMatchesUptoCard

/-- THE SECOND FORM's CARD OF 'netlablaw05.LiteralFormatMatches'. -/
def literalFormatMatchesUptoCard : Claim7 := { stood := { row := literalFormatMatchesUptoRow, standIns := [], harness := (true, "db9aa0b334ebc23ee8f04da9892cbe1aba93e0385f15bb253a2679a29a117d12"), looks := true }, kinds := [], alts := [], laidByText := true, laidKinds := [.data, .data, .data, .data, .data, .sentinel, .sentinel, .pinned, .pinned], laidTests := true, laidLooks := .later }
def LiteralFormatMatchesUptoCardSaid : Prop := Claim7.holds Tryz.pinned (.plain (OpenSpec.upto literalFormatMatchesSpec)) literalFormatMatchesUptoCard

/-- THE SECOND FORM's CARD OF 'netlablaw05.LiteralExamples'. -/
def literalExamplesUptoCard : Claim7 := { stood := { row := literalExamplesUptoRow, standIns := [], harness := (true, "db9aa0b334ebc23ee8f04da9892cbe1aba93e0385f15bb253a2679a29a117d12"), looks := true }, kinds := [], alts := [], laidByText := true, laidKinds := [.data, .data, .data, .data, .data, .sentinel, .sentinel, .pinned, .pinned], laidTests := true, laidLooks := .later }
def LiteralExamplesUptoCardSaid : Prop := Claim7.holds Tryz.pinned (.plain (OpenSpec.upto literalExamplesSpec)) literalExamplesUptoCard

/-- THE SECOND FORM's CARD OF 'netlablaw05.LiteralRoundTrip'. -/
def literalRoundTripUptoCard : Claim7 := { stood := { row := literalRoundTripUptoRow, standIns := [], harness := (true, "db9aa0b334ebc23ee8f04da9892cbe1aba93e0385f15bb253a2679a29a117d12"), looks := true }, kinds := [], alts := [], laidByText := true, laidKinds := [.data, .data, .data, .data, .data, .sentinel, .sentinel, .pinned, .pinned], laidTests := true, laidLooks := .later }
def LiteralRoundTripUptoCardSaid : Prop := Claim7.holds Tryz.pinned (.plain (OpenSpec.upto literalRoundTripSpec)) literalRoundTripUptoCard

/-- THE SECOND FORM's CARD OF 'netlablaw05.LiteralCanonical'. -/
def literalCanonicalUptoCard : Claim7 := { stood := { row := literalCanonicalUptoRow, standIns := [], harness := (true, "db9aa0b334ebc23ee8f04da9892cbe1aba93e0385f15bb253a2679a29a117d12"), looks := true }, kinds := [], alts := [], laidByText := true, laidKinds := [.data, .data, .data, .data, .data, .sentinel, .sentinel, .pinned, .pinned], laidTests := true, laidLooks := .later }
def LiteralCanonicalUptoCardSaid : Prop := Claim7.holds Tryz.pinned (.plain (OpenSpec.upto literalCanonicalSpec)) literalCanonicalUptoCard

/-- THE SECOND FORM's CARD OF 'netlablaw05.LiteralUnderscores'. -/
def literalUnderscoresUptoCard : Claim7 := { stood := { row := literalUnderscoresUptoRow, standIns := [], harness := (true, "db9aa0b334ebc23ee8f04da9892cbe1aba93e0385f15bb253a2679a29a117d12"), looks := true }, kinds := [], alts := [], laidByText := true, laidKinds := [.data, .data, .data, .data, .data, .sentinel, .sentinel, .pinned, .pinned], laidTests := true, laidLooks := .later }
def LiteralUnderscoresUptoCardSaid : Prop := Claim7.holds Tryz.pinned (.plain (OpenSpec.upto literalUnderscoresSpec)) literalUnderscoresUptoCard

/-- THE SECOND FORM's CARD OF 'netlablaw05.LiteralContext'. -/
def literalContextUptoCard : Claim7 := { stood := { row := literalContextUptoRow, standIns := [], harness := (true, "db9aa0b334ebc23ee8f04da9892cbe1aba93e0385f15bb253a2679a29a117d12"), looks := true }, kinds := [], alts := [], laidByText := true, laidKinds := [.data, .data, .data, .data, .data, .sentinel, .sentinel, .pinned, .pinned], laidTests := true, laidLooks := .later }
def LiteralContextUptoCardSaid : Prop := Claim7.holds Tryz.pinned (.plain (OpenSpec.upto literalContextSpec)) literalContextUptoCard

/-- THE SECOND FORM's CARD OF 'netlablaw05.LiteralSizes'. -/
def literalSizesUptoCard : Claim7 := { stood := { row := literalSizesUptoRow, standIns := [], harness := (true, "db9aa0b334ebc23ee8f04da9892cbe1aba93e0385f15bb253a2679a29a117d12"), looks := true }, kinds := [], alts := [], laidByText := true, laidKinds := [.data, .data, .data, .data, .data, .sentinel, .sentinel, .pinned, .pinned], laidTests := true, laidLooks := .later }
def LiteralSizesUptoCardSaid : Prop := Claim7.holds Tryz.pinned (.plain (OpenSpec.upto literalSizesSpec)) literalSizesUptoCard

/-- THE SECOND FORM's CARD OF 'netlablaw05.LiteralDigits'. -/
def literalDigitsUptoCard : Claim7 := { stood := { row := literalDigitsUptoRow, standIns := [], harness := (true, "db9aa0b334ebc23ee8f04da9892cbe1aba93e0385f15bb253a2679a29a117d12"), looks := true }, kinds := [], alts := [], laidByText := true, laidKinds := [.data, .data, .data, .data, .data, .sentinel, .sentinel, .pinned, .pinned], laidTests := true, laidLooks := .later }
def LiteralDigitsUptoCardSaid : Prop := Claim7.holds Tryz.pinned (.plain (OpenSpec.upto literalDigitsSpec)) literalDigitsUptoCard
end Rows
end Go.Proofs.YtgojnpblhfbdpaaGreatDoor
