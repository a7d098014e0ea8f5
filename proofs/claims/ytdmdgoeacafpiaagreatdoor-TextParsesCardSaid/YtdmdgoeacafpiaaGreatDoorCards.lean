/-
  DERIVED. GIVEN WITH THE SEED: THE CARDS: each row of YtdmdgoeacafpiaaGreatDoorRows.lean that lists a variable, with what it lists TIED to the program's text (the seventh form; the later family's looks); each row that meets fmt, with fmt's text TOLD by the authors' own Lean function (tested against real Go, not proved from fmt's source: count such statements apart). THE CARD IS WHAT COUNTS. Prove the row's statement (the work); the ties are given (YtdmdgoeacafpiaaGreatDoorTie.lean); close each card by the builder's one call (the guide's Derived/Test/ToyasCard.lean, 'card_holds'). Laid BY PROGRAM, IN A SANDBOX (cutbox-door.mjs). By AI agents, Wed Nov 11 2026. No macro, syntax, notation, axiom, sorry.
-/
import Derived.Test.YtdmdgoeacafpiaaGreatDoorRows
import GoSem.ClaimSeven
namespace Go.Proofs.YtdmdgoeacafpiaaGreatDoor
namespace Rows

/-- THE TIED CARD OF 'chattellaw06.TextParses'. -/
def textParsesCard : Claim7 := { stood := { row := textParsesRow, standIns := [], harness := (true, "afc897edc7f01c337ea844c4f8e6d668befb08bf012c975119d4755d96083fc9"), looks := true }, kinds := [], alts := [], laidByText := true, laidKinds := [.data, .data, .data, .data, .sentinel, .sentinel, .data, .data, .data, .data, .pinned], laidTests := true, laidLooks := .later }
def TextParsesCardSaid : Prop := Claim7.holds Tryz.pinned (.plain (OpenSpec.ofChange textParsesSpec)) textParsesCard

/-- THE TIED CARD OF 'chattellaw06.TextGaps'. -/
def textGapsCard : Claim7 := { stood := { row := textGapsRow, standIns := [], harness := (true, "afc897edc7f01c337ea844c4f8e6d668befb08bf012c975119d4755d96083fc9"), looks := true }, kinds := [], alts := [], laidByText := true, laidKinds := [.data, .data, .data, .data, .sentinel, .sentinel, .data, .data, .data, .data, .pinned], laidTests := true, laidLooks := .later }
def TextGapsCardSaid : Prop := Claim7.holds Tryz.pinned (.plain (OpenSpec.ofChange textGapsSpec)) textGapsCard

/-- THE TIED CARD OF 'chattellaw06.TextAhead'. -/
def textAheadCard : Claim7 := { stood := { row := textAheadRow, standIns := [], harness := (true, "afc897edc7f01c337ea844c4f8e6d668befb08bf012c975119d4755d96083fc9"), looks := true }, kinds := [], alts := [], laidByText := true, laidKinds := [.data, .data, .data, .data, .sentinel, .sentinel, .data, .data, .data, .data, .pinned], laidTests := true, laidLooks := .later }
def TextAheadCardSaid : Prop := Claim7.holds Tryz.pinned (.plain (OpenSpec.ofChange textAheadSpec)) textAheadCard

/-- THE SECOND FORM's CARD OF 'chattellaw06.TextParses'. -/
def textParsesUptoCard : Claim7 := { stood := { row := textParsesUptoRow, standIns := [], harness := (true, "afc897edc7f01c337ea844c4f8e6d668befb08bf012c975119d4755d96083fc9"), looks := true }, kinds := [], alts := [], laidByText := true, laidKinds := [.data, .data, .data, .data, .sentinel, .sentinel, .data, .data, .data, .data, .pinned], laidTests := true, laidLooks := .later }
def TextParsesUptoCardSaid : Prop := Claim7.holds Tryz.pinned (.plain (OpenSpec.upto textParsesSpec)) textParsesUptoCard

/-- THE SECOND FORM's CARD OF 'chattellaw06.TextGaps'. -/
def textGapsUptoCard : Claim7 := { stood := { row := textGapsUptoRow, standIns := [], harness := (true, "afc897edc7f01c337ea844c4f8e6d668befb08bf012c975119d4755d96083fc9"), looks := true }, kinds := [], alts := [], laidByText := true, laidKinds := [.data, .data, .data, .data, .sentinel, .sentinel, .data, .data, .data, .data, .pinned], laidTests := true, laidLooks := .later }
def TextGapsUptoCardSaid : Prop := Claim7.holds Tryz.pinned (.plain (OpenSpec.upto textGapsSpec)) textGapsUptoCard

/-- THE SECOND FORM's CARD OF 'chattellaw06.TextAhead'. -/
def textAheadUptoCard : Claim7 := { stood := { row := textAheadUptoRow, standIns := [], harness := (true, "afc897edc7f01c337ea844c4f8e6d668befb08bf012c975119d4755d96083fc9"), looks := true }, kinds := [], alts := [], laidByText := true, laidKinds := [.data, .data, .data, .data, .sentinel, .sentinel, .data, .data, .data, .data, .pinned], laidTests := true, laidLooks := .later }
def TextAheadUptoCardSaid : Prop := Claim7.holds Tryz.pinned (.plain (OpenSpec.upto textAheadSpec)) textAheadUptoCard
end Rows
end Go.Proofs.YtdmdgoeacafpiaaGreatDoor
