/-
  slices.symMergeCmpFunc at []int: both parts have more than one number.
-/
import Derived.Test.YtadjhofomabbmaaDoorSymL
namespace Go.Proofs.YtadjhofomabbmaaDoor
open Go.RowKit Go.Sort
set_option linter.unusedVariables false

theorem num_eqI {k : IntKind} {a b : Int} (h : a = b) : Value.int k a = Value.int k b := by rw [h]

/-- Where the search on both sides stands. -/
def FoundC (κ : Int → Int) (d : Array Int) (p s0 r0 s r : Nat) : Prop := (s = s0 ∨ (s0 < s ∧ ¬ κ d[s - 1]! < κ d[p - (s - 1)]!)) ∧ (r = r0 ∨ κ d[r]! < κ d[p - r]!)

end Go.Proofs.YtadjhofomabbmaaDoor
