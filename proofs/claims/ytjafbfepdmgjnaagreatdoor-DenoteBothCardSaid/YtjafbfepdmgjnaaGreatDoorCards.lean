/-
  DERIVED. GIVEN WITH THE SEED: THE CARDS: each row of YtjafbfepdmgjnaaGreatDoorRows.lean that lists a variable, with what it lists TIED to the program's text (the seventh form; the later family's looks); each row that meets fmt, with fmt's text TOLD by the authors' own Lean function (tested against real Go, not proved from fmt's source: count such statements apart). THE CARD IS WHAT COUNTS. Prove the row's statement (the work); the ties are given (YtjafbfepdmgjnaaGreatDoorTie.lean); close each card by the builder's one call (the guide's Derived/Test/ToyasCard.lean, 'card_holds'). Laid BY PROGRAM, IN A SANDBOX (cutbox-door.mjs). By AI agents, Wed Nov 11 2026. No macro, syntax, notation, axiom, sorry.
-/
import Derived.Test.YtjafbfepdmgjnaaGreatDoorRows
import GoSem.ClaimSeven
namespace Go.Proofs.YtjafbfepdmgjnaaGreatDoor
namespace Rows

/-- THE TIED CARD OF 'chattellaw09.DenoteTells'. -/
def denoteTellsCard : Claim7 := { stood := { row := denoteTellsRow, standIns := [], harness := (true, "06b617d14bb42c5115dc5d6ff4660eb04144c6d531311b083d3c54d8b4063de9"), looks := false }, kinds := [], alts := [], laidByText := true, laidKinds := [.data], laidTests := true, laidLooks := .later }
def DenoteTellsCardSaid : Prop := Claim7.holds Tryz.pinned (.plain (OpenSpec.ofChange denoteTellsSpec)) denoteTellsCard

/-- THE TIED CARD OF 'chattellaw09.DenoteUpTo'. -/
def denoteUpToCard : Claim7 := { stood := { row := denoteUpToRow, standIns := [], harness := (true, "06b617d14bb42c5115dc5d6ff4660eb04144c6d531311b083d3c54d8b4063de9"), looks := false }, kinds := [], alts := [], laidByText := true, laidKinds := [.data], laidTests := true, laidLooks := .later }
def DenoteUpToCardSaid : Prop := Claim7.holds Tryz.pinned (.plain (OpenSpec.ofChange denoteUpToSpec)) denoteUpToCard

/-- THE TIED CARD OF 'chattellaw09.DenoteGives'. -/
def denoteGivesCard : Claim7 := { stood := { row := denoteGivesRow, standIns := [], harness := (true, "06b617d14bb42c5115dc5d6ff4660eb04144c6d531311b083d3c54d8b4063de9"), looks := false }, kinds := [], alts := [], laidByText := true, laidKinds := [.data], laidTests := true, laidLooks := .later }
def DenoteGivesCardSaid : Prop := Claim7.holds Tryz.pinned (.plain (OpenSpec.ofChange denoteGivesSpec)) denoteGivesCard

/-- THE TIED CARD OF 'chattellaw09.DenoteBoth'. -/
def denoteBothCard : Claim7 := { stood := { row := denoteBothRow, standIns := [], harness := (true, "06b617d14bb42c5115dc5d6ff4660eb04144c6d531311b083d3c54d8b4063de9"), looks := false }, kinds := [], alts := [], laidByText := true, laidKinds := [.data], laidTests := true, laidLooks := .later }
def DenoteBothCardSaid : Prop := Claim7.holds Tryz.pinned (.plain (OpenSpec.ofChange denoteBothSpec)) denoteBothCard

/-- THE TIED CARD OF 'chattellaw09.DenoteKnown'. -/
def denoteKnownCard : Claim7 := { stood := { row := denoteKnownRow, standIns := [], harness := (true, "06b617d14bb42c5115dc5d6ff4660eb04144c6d531311b083d3c54d8b4063de9"), looks := false }, kinds := [], alts := [], laidByText := true, laidKinds := [.data], laidTests := true, laidLooks := .later }
def DenoteKnownCardSaid : Prop := Claim7.holds Tryz.pinned (.plain (OpenSpec.ofChange denoteKnownSpec)) denoteKnownCard

/-- THE TIED CARD OF 'chattellaw09.DenoteNets'. -/
def denoteNetsCard : Claim7 := { stood := { row := denoteNetsRow, standIns := [], harness := (true, "06b617d14bb42c5115dc5d6ff4660eb04144c6d531311b083d3c54d8b4063de9"), looks := false }, kinds := [], alts := [], laidByText := true, laidKinds := [.data], laidTests := true, laidLooks := .later }
def DenoteNetsCardSaid : Prop := Claim7.holds Tryz.pinned (.plain (OpenSpec.ofChange denoteNetsSpec)) denoteNetsCard

/-- THE TIED CARD OF 'chattellaw09.DenoteSame'. -/
def denoteSameCard : Claim7 := { stood := { row := denoteSameRow, standIns := [], harness := (true, "06b617d14bb42c5115dc5d6ff4660eb04144c6d531311b083d3c54d8b4063de9"), looks := false }, kinds := [], alts := [], laidByText := true, laidKinds := [.data], laidTests := true, laidLooks := .later }
def DenoteSameCardSaid : Prop := Claim7.holds Tryz.pinned (.plain (OpenSpec.ofChange denoteSameSpec)) denoteSameCard

/-- THE SECOND FORM's CARD OF 'chattellaw09.DenoteTells'. -/
def denoteTellsUptoCard : Claim7 := { stood := { row := denoteTellsUptoRow, standIns := [], harness := (true, "06b617d14bb42c5115dc5d6ff4660eb04144c6d531311b083d3c54d8b4063de9"), looks := false }, kinds := [], alts := [], laidByText := true, laidKinds := [.data], laidTests := true, laidLooks := .later }
def DenoteTellsUptoCardSaid : Prop := Claim7.holds Tryz.pinned (.plain (OpenSpec.upto denoteTellsSpec)) denoteTellsUptoCard

/-- THE SECOND FORM's CARD OF 'chattellaw09.DenoteUpTo'. -/
def denoteUpToUptoCard : Claim7 := { stood := { row := denoteUpToUptoRow, standIns := [], harness := (true, "06b617d14bb42c5115dc5d6ff4660eb04144c6d531311b083d3c54d8b4063de9"), looks := false }, kinds := [], alts := [], laidByText := true, laidKinds := [.data], laidTests := true, laidLooks := .later }
def DenoteUpToUptoCardSaid : Prop := Claim7.holds Tryz.pinned (.plain (OpenSpec.upto denoteUpToSpec)) denoteUpToUptoCard

/-- THE SECOND FORM's CARD OF 'chattellaw09.DenoteGives'. -/
def denoteGivesUptoCard : Claim7 := { stood := { row := denoteGivesUptoRow, standIns := [], harness := (true, "06b617d14bb42c5115dc5d6ff4660eb04144c6d531311b083d3c54d8b4063de9"), looks := false }, kinds := [], alts := [], laidByText := true, laidKinds := [.data], laidTests := true, laidLooks := .later }
def DenoteGivesUptoCardSaid : Prop := Claim7.holds Tryz.pinned (.plain (OpenSpec.upto denoteGivesSpec)) denoteGivesUptoCard

/-- THE SECOND FORM's CARD OF 'chattellaw09.DenoteBoth'. -/
def denoteBothUptoCard : Claim7 := { stood := { row := denoteBothUptoRow, standIns := [], harness := (true, "06b617d14bb42c5115dc5d6ff4660eb04144c6d531311b083d3c54d8b4063de9"), looks := false }, kinds := [], alts := [], laidByText := true, laidKinds := [.data], laidTests := true, laidLooks := .later }
def DenoteBothUptoCardSaid : Prop := Claim7.holds Tryz.pinned (.plain (OpenSpec.upto denoteBothSpec)) denoteBothUptoCard

/-- THE SECOND FORM's CARD OF 'chattellaw09.DenoteKnown'. -/
def denoteKnownUptoCard : Claim7 := { stood := { row := denoteKnownUptoRow, standIns := [], harness := (true, "06b617d14bb42c5115dc5d6ff4660eb04144c6d531311b083d3c54d8b4063de9"), looks := false }, kinds := [], alts := [], laidByText := true, laidKinds := [.data], laidTests := true, laidLooks := .later }
def DenoteKnownUptoCardSaid : Prop := Claim7.holds Tryz.pinned (.plain (OpenSpec.upto denoteKnownSpec)) denoteKnownUptoCard

/-- THE SECOND FORM's CARD OF 'chattellaw09.DenoteNets'. -/
def denoteNetsUptoCard : Claim7 := { stood := { row := denoteNetsUptoRow, standIns := [], harness := (true, "06b617d14bb42c5115dc5d6ff4660eb04144c6d531311b083d3c54d8b4063de9"), looks := false }, kinds := [], alts := [], laidByText := true, laidKinds := [.data], laidTests := true, laidLooks := .later }
def DenoteNetsUptoCardSaid : Prop := Claim7.holds Tryz.pinned (.plain (OpenSpec.upto denoteNetsSpec)) denoteNetsUptoCard

/-- THE SECOND FORM's CARD OF 'chattellaw09.DenoteSame'. -/
def denoteSameUptoCard : Claim7 := { stood := { row := denoteSameUptoRow, standIns := [], harness := (true, "06b617d14bb42c5115dc5d6ff4660eb04144c6d531311b083d3c54d8b4063de9"), looks := false }, kinds := [], alts := [], laidByText := true, laidKinds := [.data], laidTests := true, laidLooks := .later }
def DenoteSameUptoCardSaid : Prop := Claim7.holds Tryz.pinned (.plain (OpenSpec.upto denoteSameSpec)) denoteSameUptoCard
end Rows
end Go.Proofs.YtjafbfepdmgjnaaGreatDoor
