/-
  Package term: told, Keys, Choices, Depth, Horizon; the reference's Keys.
-/
import Derived.Test.YtgeneoamngfomaaGreatDoorTrm
import Derived.Test.YtgeneoamngfomaaGreatDoorShelf
import Derived.Sort.OwnSortedInts
import Derived.Test.YtgeneoamngfomaaGreatDoorJnA
namespace Go.Proofs.YtgeneoamngfomaaGreatDoor
open Go.RowKit Go.Lib Go.Sort
set_option linter.unusedVariables false
set_option linter.unusedSimpArgs false

end Go.Proofs.YtgeneoamngfomaaGreatDoor

namespace Go.Proofs.YtgeneoamngfomaaGreatDoor
open Go.RowKit Go.Lib
set_option linter.unusedVariables false
set_option linter.unusedSimpArgs false

end Go.Proofs.YtgeneoamngfomaaGreatDoor

namespace Go.Proofs.YtgeneoamngfomaaGreatDoor
open Go.RowKit Go.Lib
set_option linter.unusedVariables false
set_option linter.unusedSimpArgs false

theorem OwnN.lt {w : World} {base : Nat} {v : Value} {t : List Nd} (h : OwnN w base v t) : ∀ k, v.ownBlock = some k → k < w.heap.size := fun k hk => (World.ownsRow.lt h k hk).2
theorem Own.lt {w : World} {base : Nat} {v : Value} {l : List Int} (h : YtgeneoamngfomaaGreatDoor.Own w base v l) : ∀ k, v.ownBlock = some k → k < w.heap.size := fun k hk => (World.ownsRow.lt h k hk).2

end Go.Proofs.YtgeneoamngfomaaGreatDoor

namespace Go.Proofs.YtgeneoamngfomaaGreatDoor
open Go.RowKit Go.Lib
set_option linter.unusedVariables false
set_option linter.unusedSimpArgs false

end Go.Proofs.YtgeneoamngfomaaGreatDoor
