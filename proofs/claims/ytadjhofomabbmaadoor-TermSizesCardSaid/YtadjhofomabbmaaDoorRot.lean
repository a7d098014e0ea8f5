/-
  slices.swapRangeCmpFunc and slices.rotateCmpFunc at []int: what they make of the row.
-/
import Derived.Test.YtadjhofomabbmaaDoorIns
import Derived.Test.YtadjhofomabbmaaDoorMergeA
namespace Go.Proofs.YtadjhofomabbmaaDoor
open Go.RowKit Go.Sort
set_option linter.unusedVariables false

end Go.Proofs.YtadjhofomabbmaaDoor
