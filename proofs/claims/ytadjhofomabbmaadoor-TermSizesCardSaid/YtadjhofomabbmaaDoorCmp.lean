/-
  cmp.Compare at uint64, and the order that giveAway sorts by.
-/
import Derived.Test.YtadjhofomabbmaaDoorIns
namespace Go.Proofs.YtadjhofomabbmaaDoor
open Go.RowKit Go.Sort
set_option linter.unusedVariables false

def cmpU (x y : Int) : Int := if x < y then -1 else if y < x then 1 else 0
theorem cmpU_neg (x y : Int) : cmpU x y < 0 ↔ x < y := by unfold cmpU; split <;> (try split) <;> omega

end Go.Proofs.YtadjhofomabbmaaDoor
