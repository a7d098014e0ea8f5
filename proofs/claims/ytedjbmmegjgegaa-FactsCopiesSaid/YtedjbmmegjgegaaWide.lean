/-
  Package ratio's wide numbers (128 bits in two's complement): add, sign, size, rest, through.
-/
import Derived.Test.YtedjbmmegjgegaaRatA
import Derived.Shelf.Spec.BitsCarry
namespace Go.Proofs.Ytedjbmmegjgegaa
open Go.RowKit
set_option linter.unusedVariables false

/-- The two words of a number of 128 bits, in two's complement. -/
def wH (z : Int) : Int := (z / 18446744073709551616) % 18446744073709551616
def wL (z : Int) : Int := z % 18446744073709551616
theorem wH_bd (z : Int) : 0 ≤ wH z ∧ wH z ≤ 18446744073709551615 := by unfold wH; omega
theorem wL_bd (z : Int) : 0 ≤ wL z ∧ wL z ≤ 18446744073709551615 := by unfold wL; omega

theorem wide_add (z p : Int) : (wL z + p % 18446744073709551616 + 0) % 18446744073709551616 = wL (z + p) ∧ (wH z + p / 18446744073709551616 + (wL z + p % 18446744073709551616 + 0) / 18446744073709551616) % 18446744073709551616 = wH (z + p) := by
  unfold wL wH; omega
theorem wide_sub (z p : Int) : (wL z - p % 18446744073709551616 - 0) % 18446744073709551616 = wL (z - p) ∧ (wH z - p / 18446744073709551616 - (if wL z < p % 18446744073709551616 + 0 then 1 else 0)) % 18446744073709551616 = wH (z - p) := by
  unfold wL wH; split <;> omega

/-- What add leaves. -/
def WAddPost (b : Nat) (t : Int) (w : World) (e : Ending) (w' : World) : Prop :=
  e = .returned (.tuple #[]) ∧ w' = (w.setCell ⟨b, 1, none⟩ (.int .u64 (wL t))).setCell ⟨b, 0, none⟩ (.int .u64 (wH t))

theorem wide_neg (z : Int) (z0 : -170141183460469231731687303715884105728 ≤ z) (h : z < 0) : (0 - wL z - 0) % 18446744073709551616 = mulLo (absI z) 1 ∧ (0 - wH z - (if 0 < wL z + 0 then 1 else 0)) % 18446744073709551616 = mulHi (absI z) 1 := by
  unfold wL wH mulLo mulHi absI; split <;> omega
theorem wide_pos (z : Int) (z1 : z < 170141183460469231731687303715884105728) (h : 0 ≤ z) : wL z = mulLo (absI z) 1 ∧ wH z = mulHi (absI z) 1 := by
  unfold wL wH mulLo mulHi absI; omega

end Go.Proofs.Ytedjbmmegjgegaa
