/-
  DERIVED. GIVEN WITH THE SEED: THE CARDS: each row of YtadjhofomabbmaaDoorRows.lean that lists a variable, with what it lists TIED to the program's text (the seventh form; the later family's looks); each row that meets fmt, with fmt's text TOLD by the authors' own Lean function (tested against real Go, not proved from fmt's source: count such statements apart). THE CARD IS WHAT COUNTS. Prove the row's statement (the work); the ties are given (YtadjhofomabbmaaDoorTie.lean); close each card by the builder's one call (the guide's Derived/Test/ToyasCard.lean, 'card_holds'). Laid BY PROGRAM, IN A SANDBOX (cutbox-door.mjs). By AI agents, Wed Nov 11 2026. No macro, syntax, notation, axiom, sorry.
-/
import Derived.Test.YtadjhofomabbmaaDoorRows
import GoSem.ClaimSeven
namespace Go.Proofs.YtadjhofomabbmaaDoor
namespace Rows

/-- THE TIED CARD OF 'chattellaw03.CashJoins'. -/
def cashJoinsCard : Claim7 := { stood := { row := cashJoinsRow, standIns := [], harness := (true, "6876311f832b632982ed6779e468ef259c9c2add43c83964423274b53be01bea"), looks := true }, kinds := [], alts := [], laidByText := true, laidKinds := [.data, .data, .data, .data, .sentinel, .sentinel, .data, .pinned], laidTests := true, laidLooks := .later }
def CashJoinsCardSaid : Prop := Claim7.holds Tryd.pinned (.plain (OpenSpec.ofChange cashJoinsSpec)) cashJoinsCard

/-- THE TIED CARD OF 'chattellaw05.TermOps'. -/
def termOpsCard : Claim7 := { stood := { row := termOpsRow, standIns := [], harness := (true, "6876311f832b632982ed6779e468ef259c9c2add43c83964423274b53be01bea"), looks := true }, kinds := [], alts := [], laidByText := true, laidKinds := [.data], laidTests := true, laidLooks := .later }
def TermOpsCardSaid : Prop := Claim7.holds Tryd.pinned (.plain (OpenSpec.ofChange termOpsSpec)) termOpsCard

/-- THE TIED CARD OF 'chattellaw05.TermSizes'. -/
def termSizesCard : Claim7 := { stood := { row := termSizesRow, standIns := [], harness := (true, "6876311f832b632982ed6779e468ef259c9c2add43c83964423274b53be01bea"), looks := true }, kinds := [], alts := [], laidByText := true, laidKinds := [.data], laidTests := true, laidLooks := .later }
def TermSizesCardSaid : Prop := Claim7.holds Tryd.pinned (.plain (OpenSpec.ofChange termSizesSpec)) termSizesCard

/-- THE TIED CARD OF 'chattellaw05.TermChecks'. -/
def termChecksCard : Claim7 := { stood := { row := termChecksRow, standIns := [], harness := (true, "6876311f832b632982ed6779e468ef259c9c2add43c83964423274b53be01bea"), looks := true }, kinds := [], alts := [], laidByText := true, laidKinds := [.data], laidTests := true, laidLooks := .later }
def TermChecksCardSaid : Prop := Claim7.holds Tryd.pinned (.plain (OpenSpec.ofChange termChecksSpec)) termChecksCard

/-- THE TIED CARD OF 'chattellaw05.TermTells'. -/
def termTellsCard : Claim7 := { stood := { row := termTellsRow, standIns := [], harness := (true, "6876311f832b632982ed6779e468ef259c9c2add43c83964423274b53be01bea"), looks := true }, kinds := [], alts := [], laidByText := true, laidKinds := [.data], laidTests := true, laidLooks := .later }
def TermTellsCardSaid : Prop := Claim7.holds Tryd.pinned (.plain (OpenSpec.ofChange termTellsSpec)) termTellsCard

/-- THE TIED CARD OF 'chattellaw05.TermJoins'. -/
def termJoinsCard : Claim7 := { stood := { row := termJoinsRow, standIns := [], harness := (true, "6876311f832b632982ed6779e468ef259c9c2add43c83964423274b53be01bea"), looks := true }, kinds := [], alts := [], laidByText := true, laidKinds := [.data], laidTests := true, laidLooks := .later }
def TermJoinsCardSaid : Prop := Claim7.holds Tryd.pinned (.plain (OpenSpec.ofChange termJoinsSpec)) termJoinsCard

/-- THE TIED CARD OF 'chattellaw05.TermDeeper'. -/
def termDeeperCard : Claim7 := { stood := { row := termDeeperRow, standIns := [], harness := (true, "6876311f832b632982ed6779e468ef259c9c2add43c83964423274b53be01bea"), looks := true }, kinds := [], alts := [], laidByText := true, laidKinds := [.data], laidTests := true, laidLooks := .later }
def TermDeeperCardSaid : Prop := Claim7.holds Tryd.pinned (.plain (OpenSpec.ofChange termDeeperSpec)) termDeeperCard

/-- THE TIED CARD OF 'chattellaw05.TermInside'. -/
def termInsideCard : Claim7 := { stood := { row := termInsideRow, standIns := [], harness := (true, "6876311f832b632982ed6779e468ef259c9c2add43c83964423274b53be01bea"), looks := true }, kinds := [], alts := [], laidByText := true, laidKinds := [.data], laidTests := true, laidLooks := .later }
def TermInsideCardSaid : Prop := Claim7.holds Tryd.pinned (.plain (OpenSpec.ofChange termInsideSpec)) termInsideCard

/-- THE SECOND FORM's CARD OF 'chattellaw03.CashJoins'. -/
def cashJoinsUptoCard : Claim7 := { stood := { row := cashJoinsUptoRow, standIns := [], harness := (true, "6876311f832b632982ed6779e468ef259c9c2add43c83964423274b53be01bea"), looks := true }, kinds := [], alts := [], laidByText := true, laidKinds := [.data, .data, .data, .data, .sentinel, .sentinel, .data, .pinned], laidTests := true, laidLooks := .later }
def CashJoinsUptoCardSaid : Prop := Claim7.holds Tryd.pinned (.plain (OpenSpec.upto cashJoinsSpec)) cashJoinsUptoCard

/-- THE SECOND FORM's CARD OF 'chattellaw05.TermOps'. -/
def termOpsUptoCard : Claim7 := { stood := { row := termOpsUptoRow, standIns := [], harness := (true, "6876311f832b632982ed6779e468ef259c9c2add43c83964423274b53be01bea"), looks := true }, kinds := [], alts := [], laidByText := true, laidKinds := [.data], laidTests := true, laidLooks := .later }
def TermOpsUptoCardSaid : Prop := Claim7.holds Tryd.pinned (.plain (OpenSpec.upto termOpsSpec)) termOpsUptoCard

/-- THE SECOND FORM's CARD OF 'chattellaw05.TermSizes'. -/
def termSizesUptoCard : Claim7 := { stood := { row := termSizesUptoRow, standIns := [], harness := (true, "6876311f832b632982ed6779e468ef259c9c2add43c83964423274b53be01bea"), looks := true }, kinds := [], alts := [], laidByText := true, laidKinds := [.data], laidTests := true, laidLooks := .later }
def TermSizesUptoCardSaid : Prop := Claim7.holds Tryd.pinned (.plain (OpenSpec.upto termSizesSpec)) termSizesUptoCard

/-- THE SECOND FORM's CARD OF 'chattellaw05.TermChecks'. -/
def termChecksUptoCard : Claim7 := { stood := { row := termChecksUptoRow, standIns := [], harness := (true, "6876311f832b632982ed6779e468ef259c9c2add43c83964423274b53be01bea"), looks := true }, kinds := [], alts := [], laidByText := true, laidKinds := [.data], laidTests := true, laidLooks := .later }
def TermChecksUptoCardSaid : Prop := Claim7.holds Tryd.pinned (.plain (OpenSpec.upto termChecksSpec)) termChecksUptoCard

/-- THE SECOND FORM's CARD OF 'chattellaw05.TermTells'. -/
def termTellsUptoCard : Claim7 := { stood := { row := termTellsUptoRow, standIns := [], harness := (true, "6876311f832b632982ed6779e468ef259c9c2add43c83964423274b53be01bea"), looks := true }, kinds := [], alts := [], laidByText := true, laidKinds := [.data], laidTests := true, laidLooks := .later }
def TermTellsUptoCardSaid : Prop := Claim7.holds Tryd.pinned (.plain (OpenSpec.upto termTellsSpec)) termTellsUptoCard

/-- THE SECOND FORM's CARD OF 'chattellaw05.TermJoins'. -/
def termJoinsUptoCard : Claim7 := { stood := { row := termJoinsUptoRow, standIns := [], harness := (true, "6876311f832b632982ed6779e468ef259c9c2add43c83964423274b53be01bea"), looks := true }, kinds := [], alts := [], laidByText := true, laidKinds := [.data], laidTests := true, laidLooks := .later }
def TermJoinsUptoCardSaid : Prop := Claim7.holds Tryd.pinned (.plain (OpenSpec.upto termJoinsSpec)) termJoinsUptoCard

/-- THE SECOND FORM's CARD OF 'chattellaw05.TermDeeper'. -/
def termDeeperUptoCard : Claim7 := { stood := { row := termDeeperUptoRow, standIns := [], harness := (true, "6876311f832b632982ed6779e468ef259c9c2add43c83964423274b53be01bea"), looks := true }, kinds := [], alts := [], laidByText := true, laidKinds := [.data], laidTests := true, laidLooks := .later }
def TermDeeperUptoCardSaid : Prop := Claim7.holds Tryd.pinned (.plain (OpenSpec.upto termDeeperSpec)) termDeeperUptoCard

/-- THE SECOND FORM's CARD OF 'chattellaw05.TermInside'. -/
def termInsideUptoCard : Claim7 := { stood := { row := termInsideUptoRow, standIns := [], harness := (true, "6876311f832b632982ed6779e468ef259c9c2add43c83964423274b53be01bea"), looks := true }, kinds := [], alts := [], laidByText := true, laidKinds := [.data], laidTests := true, laidLooks := .later }
def TermInsideUptoCardSaid : Prop := Claim7.holds Tryd.pinned (.plain (OpenSpec.upto termInsideSpec)) termInsideUptoCard
end Rows
end Go.Proofs.YtadjhofomabbmaaDoor
