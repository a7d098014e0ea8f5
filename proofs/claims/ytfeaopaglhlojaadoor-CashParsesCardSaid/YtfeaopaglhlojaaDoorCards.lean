/-
  DERIVED. GIVEN WITH THE SEED: THE CARDS: each row of YtfeaopaglhlojaaDoorRows.lean that lists a variable, with what it lists TIED to the program's text (the seventh form; the later family's looks); each row that meets fmt, with fmt's text TOLD by the authors' own Lean function (tested against real Go, not proved from fmt's source: count such statements apart). THE CARD IS WHAT COUNTS. Prove the row's statement (the work); the ties are given (YtfeaopaglhlojaaDoorTie.lean); close each card by the builder's one call (the guide's Derived/Test/ToyasCard.lean, 'card_holds'). Laid BY PROGRAM, IN A SANDBOX (cutbox-door.mjs). By AI agents, Wed Nov 11 2026. No macro, syntax, notation, axiom, sorry.
-/
import Derived.Test.YtfeaopaglhlojaaDoorRows
import GoSem.ClaimSeven
namespace Go.Proofs.YtfeaopaglhlojaaDoor
namespace Rows

/-- THE TIED CARD OF 'chattellaw03.CashPrints'. -/
def cashPrintsCard : Claim7 := { stood := { row := cashPrintsRow, standIns := [], harness := (true, "931e784f6aeb4776da02e67e93752c09fd94ebc2eb68ccf1d80ec0996b7294c5"), looks := true }, kinds := [], alts := [], laidByText := true, laidKinds := [.data, .data, .data, .data, .sentinel, .sentinel, .data, .pinned], laidTests := true, laidLooks := .later }
def CashPrintsCardSaid : Prop := Claim7.holds Tryd.pinned (.plain (OpenSpec.ofChange cashPrintsSpec)) cashPrintsCard

/-- THE TIED CARD OF 'chattellaw03.CashParses'. -/
def cashParsesCard : Claim7 := { stood := { row := cashParsesRow, standIns := [], harness := (true, "931e784f6aeb4776da02e67e93752c09fd94ebc2eb68ccf1d80ec0996b7294c5"), looks := true }, kinds := [], alts := [], laidByText := true, laidKinds := [.data, .data, .data, .data, .sentinel, .sentinel, .data, .pinned], laidTests := true, laidLooks := .later }
def CashParsesCardSaid : Prop := Claim7.holds Tryd.pinned (.plain (OpenSpec.ofChange cashParsesSpec)) cashParsesCard

/-- THE TIED CARD OF 'chattellaw03.CashJoins'. -/
def cashJoinsCard : Claim7 := { stood := { row := cashJoinsRow, standIns := [], harness := (true, "931e784f6aeb4776da02e67e93752c09fd94ebc2eb68ccf1d80ec0996b7294c5"), looks := true }, kinds := [], alts := [], laidByText := true, laidKinds := [.data, .data, .data, .data, .sentinel, .sentinel, .data, .pinned], laidTests := true, laidLooks := .later }
def CashJoinsCardSaid : Prop := Claim7.holds Tryd.pinned (.plain (OpenSpec.ofChange cashJoinsSpec)) cashJoinsCard

/-- THE TIED CARD OF 'chattellaw04.DaysDates'. -/
def daysDatesCard : Claim7 := { stood := { row := daysDatesRow, standIns := [], harness := (true, "931e784f6aeb4776da02e67e93752c09fd94ebc2eb68ccf1d80ec0996b7294c5"), looks := true }, kinds := [], alts := [], laidByText := true, laidKinds := [.data], laidTests := true, laidLooks := .later }
def DaysDatesCardSaid : Prop := Claim7.holds Tryd.pinned (.plain (OpenSpec.ofChange daysDatesSpec)) daysDatesCard

/-- THE TIED CARD OF 'chattellaw04.DaysTexts'. -/
def daysTextsCard : Claim7 := { stood := { row := daysTextsRow, standIns := [], harness := (true, "931e784f6aeb4776da02e67e93752c09fd94ebc2eb68ccf1d80ec0996b7294c5"), looks := true }, kinds := [], alts := [], laidByText := true, laidKinds := [.data], laidTests := true, laidLooks := .later }
def DaysTextsCardSaid : Prop := Claim7.holds Tryd.pinned (.plain (OpenSpec.ofChange daysTextsSpec)) daysTextsCard

/-- THE TIED CARD OF 'chattellaw04.DaysMonths'. -/
def daysMonthsCard : Claim7 := { stood := { row := daysMonthsRow, standIns := [], harness := (true, "931e784f6aeb4776da02e67e93752c09fd94ebc2eb68ccf1d80ec0996b7294c5"), looks := true }, kinds := [], alts := [], laidByText := true, laidKinds := [.data], laidTests := true, laidLooks := .later }
def DaysMonthsCardSaid : Prop := Claim7.holds Tryd.pinned (.plain (OpenSpec.ofChange daysMonthsSpec)) daysMonthsCard

/-- THE TIED CARD OF 'chattellaw04.DaysBack'. -/
def daysBackCard : Claim7 := { stood := { row := daysBackRow, standIns := [], harness := (true, "931e784f6aeb4776da02e67e93752c09fd94ebc2eb68ccf1d80ec0996b7294c5"), looks := true }, kinds := [], alts := [], laidByText := true, laidKinds := [.data], laidTests := true, laidLooks := .later }
def DaysBackCardSaid : Prop := Claim7.holds Tryd.pinned (.plain (OpenSpec.ofChange daysBackSpec)) daysBackCard

/-- THE TIED CARD OF 'chattellaw04.DaysWithin'. -/
def daysWithinCard : Claim7 := { stood := { row := daysWithinRow, standIns := [], harness := (true, "931e784f6aeb4776da02e67e93752c09fd94ebc2eb68ccf1d80ec0996b7294c5"), looks := true }, kinds := [], alts := [], laidByText := true, laidKinds := [.data], laidTests := true, laidLooks := .later }
def DaysWithinCardSaid : Prop := Claim7.holds Tryd.pinned (.plain (OpenSpec.ofChange daysWithinSpec)) daysWithinCard

/-- THE TIED CARD OF 'chattellaw04.DaysYears'. -/
def daysYearsCard : Claim7 := { stood := { row := daysYearsRow, standIns := [], harness := (true, "931e784f6aeb4776da02e67e93752c09fd94ebc2eb68ccf1d80ec0996b7294c5"), looks := true }, kinds := [], alts := [], laidByText := true, laidKinds := [.data], laidTests := true, laidLooks := .later }
def DaysYearsCardSaid : Prop := Claim7.holds Tryd.pinned (.plain (OpenSpec.ofChange daysYearsSpec)) daysYearsCard

/-- THE SECOND FORM's CARD OF 'chattellaw03.CashPrints'. -/
def cashPrintsUptoCard : Claim7 := { stood := { row := cashPrintsUptoRow, standIns := [], harness := (true, "931e784f6aeb4776da02e67e93752c09fd94ebc2eb68ccf1d80ec0996b7294c5"), looks := true }, kinds := [], alts := [], laidByText := true, laidKinds := [.data, .data, .data, .data, .sentinel, .sentinel, .data, .pinned], laidTests := true, laidLooks := .later }
def CashPrintsUptoCardSaid : Prop := Claim7.holds Tryd.pinned (.plain (OpenSpec.upto cashPrintsSpec)) cashPrintsUptoCard

/-- THE SECOND FORM's CARD OF 'chattellaw03.CashParses'. -/
def cashParsesUptoCard : Claim7 := { stood := { row := cashParsesUptoRow, standIns := [], harness := (true, "931e784f6aeb4776da02e67e93752c09fd94ebc2eb68ccf1d80ec0996b7294c5"), looks := true }, kinds := [], alts := [], laidByText := true, laidKinds := [.data, .data, .data, .data, .sentinel, .sentinel, .data, .pinned], laidTests := true, laidLooks := .later }
def CashParsesUptoCardSaid : Prop := Claim7.holds Tryd.pinned (.plain (OpenSpec.upto cashParsesSpec)) cashParsesUptoCard

/-- THE SECOND FORM's CARD OF 'chattellaw03.CashJoins'. -/
def cashJoinsUptoCard : Claim7 := { stood := { row := cashJoinsUptoRow, standIns := [], harness := (true, "931e784f6aeb4776da02e67e93752c09fd94ebc2eb68ccf1d80ec0996b7294c5"), looks := true }, kinds := [], alts := [], laidByText := true, laidKinds := [.data, .data, .data, .data, .sentinel, .sentinel, .data, .pinned], laidTests := true, laidLooks := .later }
def CashJoinsUptoCardSaid : Prop := Claim7.holds Tryd.pinned (.plain (OpenSpec.upto cashJoinsSpec)) cashJoinsUptoCard

/-- THE SECOND FORM's CARD OF 'chattellaw04.DaysDates'. -/
def daysDatesUptoCard : Claim7 := { stood := { row := daysDatesUptoRow, standIns := [], harness := (true, "931e784f6aeb4776da02e67e93752c09fd94ebc2eb68ccf1d80ec0996b7294c5"), looks := true }, kinds := [], alts := [], laidByText := true, laidKinds := [.data], laidTests := true, laidLooks := .later }
def DaysDatesUptoCardSaid : Prop := Claim7.holds Tryd.pinned (.plain (OpenSpec.upto daysDatesSpec)) daysDatesUptoCard

/-- THE SECOND FORM's CARD OF 'chattellaw04.DaysTexts'. -/
def daysTextsUptoCard : Claim7 := { stood := { row := daysTextsUptoRow, standIns := [], harness := (true, "931e784f6aeb4776da02e67e93752c09fd94ebc2eb68ccf1d80ec0996b7294c5"), looks := true }, kinds := [], alts := [], laidByText := true, laidKinds := [.data], laidTests := true, laidLooks := .later }
def DaysTextsUptoCardSaid : Prop := Claim7.holds Tryd.pinned (.plain (OpenSpec.upto daysTextsSpec)) daysTextsUptoCard

/-- THE SECOND FORM's CARD OF 'chattellaw04.DaysMonths'. -/
def daysMonthsUptoCard : Claim7 := { stood := { row := daysMonthsUptoRow, standIns := [], harness := (true, "931e784f6aeb4776da02e67e93752c09fd94ebc2eb68ccf1d80ec0996b7294c5"), looks := true }, kinds := [], alts := [], laidByText := true, laidKinds := [.data], laidTests := true, laidLooks := .later }
def DaysMonthsUptoCardSaid : Prop := Claim7.holds Tryd.pinned (.plain (OpenSpec.upto daysMonthsSpec)) daysMonthsUptoCard

/-- THE SECOND FORM's CARD OF 'chattellaw04.DaysBack'. -/
def daysBackUptoCard : Claim7 := { stood := { row := daysBackUptoRow, standIns := [], harness := (true, "931e784f6aeb4776da02e67e93752c09fd94ebc2eb68ccf1d80ec0996b7294c5"), looks := true }, kinds := [], alts := [], laidByText := true, laidKinds := [.data], laidTests := true, laidLooks := .later }
def DaysBackUptoCardSaid : Prop := Claim7.holds Tryd.pinned (.plain (OpenSpec.upto daysBackSpec)) daysBackUptoCard

/-- THE SECOND FORM's CARD OF 'chattellaw04.DaysWithin'. -/
def daysWithinUptoCard : Claim7 := { stood := { row := daysWithinUptoRow, standIns := [], harness := (true, "931e784f6aeb4776da02e67e93752c09fd94ebc2eb68ccf1d80ec0996b7294c5"), looks := true }, kinds := [], alts := [], laidByText := true, laidKinds := [.data], laidTests := true, laidLooks := .later }
def DaysWithinUptoCardSaid : Prop := Claim7.holds Tryd.pinned (.plain (OpenSpec.upto daysWithinSpec)) daysWithinUptoCard

/-- THE SECOND FORM's CARD OF 'chattellaw04.DaysYears'. -/
def daysYearsUptoCard : Claim7 := { stood := { row := daysYearsUptoRow, standIns := [], harness := (true, "931e784f6aeb4776da02e67e93752c09fd94ebc2eb68ccf1d80ec0996b7294c5"), looks := true }, kinds := [], alts := [], laidByText := true, laidKinds := [.data], laidTests := true, laidLooks := .later }
def DaysYearsUptoCardSaid : Prop := Claim7.holds Tryd.pinned (.plain (OpenSpec.upto daysYearsSpec)) daysYearsUptoCard
end Rows
end Go.Proofs.YtfeaopaglhlojaaDoor
