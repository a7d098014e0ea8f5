/-
  Package ratio: what is done with two ratios.
-/
import Derived.Test.YtedjbmmegjgegaaRatF
namespace Go.Proofs.Ytedjbmmegjgegaa
open Go.RowKit
set_option linter.unusedVariables false

theorem drew_belowR {w w' : World} (h : Below w.drew.heap.size w.drew w') : Below w.heap.size w w' := ⟨h.os, h.tape, h.output, h.size, h.block⟩

end Go.Proofs.Ytedjbmmegjgegaa
