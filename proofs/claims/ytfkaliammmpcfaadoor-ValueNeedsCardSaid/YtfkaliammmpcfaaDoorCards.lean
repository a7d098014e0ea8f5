/-
  DERIVED. GIVEN WITH THE SEED: THE CARDS: each row of YtfkaliammmpcfaaDoorRows.lean that lists a variable, with what it lists TIED to the program's text (the seventh form; the later family's looks); each row that meets fmt, with fmt's text TOLD by the authors' own Lean function (tested against real Go, not proved from fmt's source: count such statements apart). THE CARD IS WHAT COUNTS. Prove the row's statement (the work); the ties are given (YtfkaliammmpcfaaDoorTie.lean); close each card by the builder's one call (the guide's Derived/Test/ToyasCard.lean, 'card_holds'). Laid BY PROGRAM, IN A SANDBOX (cutbox-door.mjs). By AI agents, Wed Nov 11 2026. No macro, syntax, notation, axiom, sorry.
-/
import Derived.Test.YtfkaliammmpcfaaDoorRows
import GoSem.ClaimSeven
namespace Go.Proofs.YtfkaliammmpcfaaDoor
namespace Rows

/-- THE TIED CARD OF 'chattellaw08.ValueNeeds'. -/
def valueNeedsCard : Claim7 := { stood := { row := valueNeedsRow, standIns := [], harness := (true, "551bdb522c38fb29073c8c88bbc11a914e2564b474afe6d6e40004f7f69d9e19"), looks := false }, kinds := [], alts := [], laidByText := true, laidKinds := [.data], laidTests := true, laidLooks := .later }
def ValueNeedsCardSaid : Prop := Claim7.holds Tryd.pinned (.plain (OpenSpec.ofChange valueNeedsSpec)) valueNeedsCard

/-- THE TIED CARD OF 'chattellaw08.ValueStays'. -/
def valueStaysCard : Claim7 := { stood := { row := valueStaysRow, standIns := [], harness := (true, "551bdb522c38fb29073c8c88bbc11a914e2564b474afe6d6e40004f7f69d9e19"), looks := false }, kinds := [], alts := [], laidByText := true, laidKinds := [.data], laidTests := true, laidLooks := .later }
def ValueStaysCardSaid : Prop := Claim7.holds Tryd.pinned (.plain (OpenSpec.ofChange valueStaysSpec)) valueStaysCard

/-- THE TIED CARD OF 'chattellaw08.ValueParts'. -/
def valuePartsCard : Claim7 := { stood := { row := valuePartsRow, standIns := [], harness := (true, "551bdb522c38fb29073c8c88bbc11a914e2564b474afe6d6e40004f7f69d9e19"), looks := false }, kinds := [], alts := [], laidByText := true, laidKinds := [.data], laidTests := true, laidLooks := .later }
def ValuePartsCardSaid : Prop := Claim7.holds Tryd.pinned (.plain (OpenSpec.ofChange valuePartsSpec)) valuePartsCard

/-- THE TIED CARD OF 'chattellaw08.ValueOnes'. -/
def valueOnesCard : Claim7 := { stood := { row := valueOnesRow, standIns := [], harness := (true, "551bdb522c38fb29073c8c88bbc11a914e2564b474afe6d6e40004f7f69d9e19"), looks := false }, kinds := [], alts := [], laidByText := true, laidKinds := [.data], laidTests := true, laidLooks := .later }
def ValueOnesCardSaid : Prop := Claim7.holds Tryd.pinned (.plain (OpenSpec.ofChange valueOnesSpec)) valueOnesCard

/-- THE SECOND FORM's CARD OF 'chattellaw08.ValueNeeds'. -/
def valueNeedsUptoCard : Claim7 := { stood := { row := valueNeedsUptoRow, standIns := [], harness := (true, "551bdb522c38fb29073c8c88bbc11a914e2564b474afe6d6e40004f7f69d9e19"), looks := false }, kinds := [], alts := [], laidByText := true, laidKinds := [.data], laidTests := true, laidLooks := .later }
def ValueNeedsUptoCardSaid : Prop := Claim7.holds Tryd.pinned (.plain (OpenSpec.upto valueNeedsSpec)) valueNeedsUptoCard

/-- THE SECOND FORM's CARD OF 'chattellaw08.ValueStays'. -/
def valueStaysUptoCard : Claim7 := { stood := { row := valueStaysUptoRow, standIns := [], harness := (true, "551bdb522c38fb29073c8c88bbc11a914e2564b474afe6d6e40004f7f69d9e19"), looks := false }, kinds := [], alts := [], laidByText := true, laidKinds := [.data], laidTests := true, laidLooks := .later }
def ValueStaysUptoCardSaid : Prop := Claim7.holds Tryd.pinned (.plain (OpenSpec.upto valueStaysSpec)) valueStaysUptoCard

/-- THE SECOND FORM's CARD OF 'chattellaw08.ValueParts'. -/
def valuePartsUptoCard : Claim7 := { stood := { row := valuePartsUptoRow, standIns := [], harness := (true, "551bdb522c38fb29073c8c88bbc11a914e2564b474afe6d6e40004f7f69d9e19"), looks := false }, kinds := [], alts := [], laidByText := true, laidKinds := [.data], laidTests := true, laidLooks := .later }
def ValuePartsUptoCardSaid : Prop := Claim7.holds Tryd.pinned (.plain (OpenSpec.upto valuePartsSpec)) valuePartsUptoCard

/-- THE SECOND FORM's CARD OF 'chattellaw08.ValueOnes'. -/
def valueOnesUptoCard : Claim7 := { stood := { row := valueOnesUptoRow, standIns := [], harness := (true, "551bdb522c38fb29073c8c88bbc11a914e2564b474afe6d6e40004f7f69d9e19"), looks := false }, kinds := [], alts := [], laidByText := true, laidKinds := [.data], laidTests := true, laidLooks := .later }
def ValueOnesUptoCardSaid : Prop := Claim7.holds Tryd.pinned (.plain (OpenSpec.upto valueOnesSpec)) valueOnesUptoCard
end Rows
end Go.Proofs.YtfkaliammmpcfaaDoor
