/-
  chattelref07: lists of facts as they lie in memory.
-/
import Derived.Test.YtgeneoamngfomaaGreatDoorFa
import Derived.Laws.AppendOwnNone
import Derived.Maps.AppendAt
import Derived.WideShapes
namespace Go.Proofs.YtgeneoamngfomaaGreatDoor
open Go.RowKit Go.Lib
set_option linter.unusedVariables false

/-- A fact of the document's answer: a key, a day, a value, a pick. -/
structure Fct where
  k : Int
  d : Int
  x : Int
  y : Int
  p : Int
instance : Inhabited Fct := ⟨⟨0, 0, 0, 0, 0⟩⟩
end Go.Proofs.YtgeneoamngfomaaGreatDoor
