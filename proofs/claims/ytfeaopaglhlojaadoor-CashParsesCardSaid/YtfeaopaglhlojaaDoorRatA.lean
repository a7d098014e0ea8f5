/-
  Package ratio's small functions: size, divisor, common, opposite, upsideDown, firstError.
-/
import Derived.Test.YtfeaopaglhlojaaDoorMul
import Derived.Below
import Derived.RegionTactic
import Derived.Deep.QuietTactic
import Derived.BigQuiet
import Derived.Deep.Draws
namespace Go.Proofs.YtfeaopaglhlojaaDoor
open Go.RowKit
set_option linter.unusedVariables false

theorem gcd_step (a b : Nat) : Nat.gcd b (a % b) = Nat.gcd a b := by rw [Nat.gcd_comm b, ← Nat.gcd_rec, Nat.gcd_comm]

theorem gcd_abs (a b : Int) : Int.gcd (absI a) (absI b) = Int.gcd a b := by unfold absI Int.gcd; simp

/-- The first of two errors. -/
def firstE (e f : Int) : Int := if e = 0 then f else e

end Go.Proofs.YtfeaopaglhlojaaDoor
