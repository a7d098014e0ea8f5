/-
  Package value: some facts alone, those of a number's keys at a day; and what stays as a map grows.
-/
import Derived.Test.YtgeneoamngfomaaGreatDoorVlO
import Derived.Test.YtgeneoamngfomaaGreatDoorVlH
namespace Go.Proofs.YtgeneoamngfomaaGreatDoor
open Go.RowKit Go.Lib Go.Shelf Go.Maps
set_option linter.unusedVariables false
set_option linter.unusedSimpArgs false

/-- A number's keys. -/
noncomputable def kyU (t : List Nd) (n : Nat) : List Int := kyN (subT t n (szA t n)) (pT 2 2) 64
end Go.Proofs.YtgeneoamngfomaaGreatDoor
