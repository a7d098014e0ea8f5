/-
  DERIVED. GIVEN WITH THE SEED: THE CARDS: each row of YtgeneoamngfomaaGreatDoorRows.lean that lists a variable, with what it lists TIED to the program's text (the seventh form; the later family's looks); each row that meets fmt, with fmt's text TOLD by the authors' own Lean function (tested against real Go, not proved from fmt's source: count such statements apart). THE CARD IS WHAT COUNTS. Prove the row's statement (the work); the ties are given (YtgeneoamngfomaaGreatDoorTie.lean); close each card by the builder's one call (the guide's Derived/Test/ToyasCard.lean, 'card_holds'). Laid BY PROGRAM, IN A SANDBOX (cutbox-door.mjs). By AI agents, Wed Nov 11 2026. No macro, syntax, notation, axiom, sorry.
-/
import Derived.Test.YtgeneoamngfomaaGreatDoorRows
import GoSem.ClaimSeven
namespace Go.Proofs.YtgeneoamngfomaaGreatDoor
namespace Rows

/-- THE TIED CARD OF 'chattellaw09.DenoteTells'. -/
def denoteTellsCard : Claim7 := { stood := { row := denoteTellsRow, standIns := [], harness := (true, "c8685690c235f75c9be744744b3b1975d2bd47db4e721eafe0aec20455f33f27"), looks := false }, kinds := [], alts := [], laidByText := true, laidKinds := [.data], laidTests := true, laidLooks := .later }
def DenoteTellsCardSaid : Prop := Claim7.holds Tryz.pinned (.plain (OpenSpec.ofChange denoteTellsSpec)) denoteTellsCard

/-- THE TIED CARD OF 'chattellaw09.DenoteNets'. -/
def denoteNetsCard : Claim7 := { stood := { row := denoteNetsRow, standIns := [], harness := (true, "c8685690c235f75c9be744744b3b1975d2bd47db4e721eafe0aec20455f33f27"), looks := false }, kinds := [], alts := [], laidByText := true, laidKinds := [.data], laidTests := true, laidLooks := .later }
def DenoteNetsCardSaid : Prop := Claim7.holds Tryz.pinned (.plain (OpenSpec.ofChange denoteNetsSpec)) denoteNetsCard

/-- THE TIED CARD OF 'chattellaw09.DenoteSame'. -/
def denoteSameCard : Claim7 := { stood := { row := denoteSameRow, standIns := [], harness := (true, "c8685690c235f75c9be744744b3b1975d2bd47db4e721eafe0aec20455f33f27"), looks := false }, kinds := [], alts := [], laidByText := true, laidKinds := [.data], laidTests := true, laidLooks := .later }
def DenoteSameCardSaid : Prop := Claim7.holds Tryz.pinned (.plain (OpenSpec.ofChange denoteSameSpec)) denoteSameCard

/-- THE SECOND FORM's CARD OF 'chattellaw09.DenoteTells'. -/
def denoteTellsUptoCard : Claim7 := { stood := { row := denoteTellsUptoRow, standIns := [], harness := (true, "c8685690c235f75c9be744744b3b1975d2bd47db4e721eafe0aec20455f33f27"), looks := false }, kinds := [], alts := [], laidByText := true, laidKinds := [.data], laidTests := true, laidLooks := .later }
def DenoteTellsUptoCardSaid : Prop := Claim7.holds Tryz.pinned (.plain (OpenSpec.upto denoteTellsSpec)) denoteTellsUptoCard

/-- THE SECOND FORM's CARD OF 'chattellaw09.DenoteNets'. -/
def denoteNetsUptoCard : Claim7 := { stood := { row := denoteNetsUptoRow, standIns := [], harness := (true, "c8685690c235f75c9be744744b3b1975d2bd47db4e721eafe0aec20455f33f27"), looks := false }, kinds := [], alts := [], laidByText := true, laidKinds := [.data], laidTests := true, laidLooks := .later }
def DenoteNetsUptoCardSaid : Prop := Claim7.holds Tryz.pinned (.plain (OpenSpec.upto denoteNetsSpec)) denoteNetsUptoCard

/-- THE SECOND FORM's CARD OF 'chattellaw09.DenoteSame'. -/
def denoteSameUptoCard : Claim7 := { stood := { row := denoteSameUptoRow, standIns := [], harness := (true, "c8685690c235f75c9be744744b3b1975d2bd47db4e721eafe0aec20455f33f27"), looks := false }, kinds := [], alts := [], laidByText := true, laidKinds := [.data], laidTests := true, laidLooks := .later }
def DenoteSameUptoCardSaid : Prop := Claim7.holds Tryz.pinned (.plain (OpenSpec.upto denoteSameSpec)) denoteSameUptoCard
end Rows
end Go.Proofs.YtgeneoamngfomaaGreatDoor
