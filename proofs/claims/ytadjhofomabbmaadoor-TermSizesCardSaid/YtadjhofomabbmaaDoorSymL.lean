/-
  slices.symMergeCmpFunc at []int: the second part is one number.
-/
import Derived.Test.YtadjhofomabbmaaDoorSym
namespace Go.Proofs.YtadjhofomabbmaaDoor
open Go.RowKit Go.Sort
set_option linter.unusedVariables false

end Go.Proofs.YtadjhofomabbmaaDoor
