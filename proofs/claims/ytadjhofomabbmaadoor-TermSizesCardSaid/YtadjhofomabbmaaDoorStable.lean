/-
  slices.stableCmpFunc and SortStableFunc at []int, up to 64 numbers, by giveAway's own order, from the row of its own places: sorted by the key, then by place.
-/
import Derived.Test.YtadjhofomabbmaaDoorSymG
import Derived.Test.YtadjhofomabbmaaDoorInsA
namespace Go.Proofs.YtadjhofomabbmaaDoor
open Go.RowKit Go.Sort
set_option linter.unusedVariables false

/-- What a step of the sort leaves: a part is sorted, the rest as it was. -/
def StepPost (κ : Int → Int) (V : Int → Prop) (w : World) (blk off N a b : Nat) (d : Array Int) (e : Ending) (w' : World) : Prop :=
  e = .returned (.tuple #[]) ∧ ∃ q d', w' = rowW w blk off q d' ∧ d'.size = N ∧ (∀ t, t < N → V d'[t]!) ∧ Seg κ a b d' ∧ ∀ t, t < a ∨ b ≤ t → d'[t]! = d[t]!

end Go.Proofs.YtadjhofomabbmaaDoor
