/-
  Package ratio: Of, Compare.
-/
import Derived.Test.YtedjbmmegjgegaaRatJ
namespace Go.Proofs.Ytedjbmmegjgegaa
open Go.RowKit
set_option linter.unusedVariables false

theorem quo_bd {a g : Int} (a0 : 0 ≤ a) (g0 : 0 < g) : 0 ≤ a / g ∧ a / g ≤ a := by
  refine ⟨Int.ediv_nonneg a0 (by omega), ?_⟩
  have := Int.ediv_le_self g a0
  exact this

end Go.Proofs.Ytedjbmmegjgegaa
