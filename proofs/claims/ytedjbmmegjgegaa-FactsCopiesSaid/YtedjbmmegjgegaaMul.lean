/-
  amount.Mul: the product, or that it does not fit.
-/
import Derived.Test.YtedjbmmegjgegaaMulDiv
namespace Go.Proofs.Ytedjbmmegjgegaa
open Go.RowKit
set_option linter.unusedVariables false

theorem prod_sgn (a b : Int) : sgn (decide (a < 0) != decide (b < 0)) (absI a * absI b) = a * b := by
  unfold absI sgn
  rw [← Int.natCast_mul, ← Int.natAbs_mul]
  by_cases ha : a < 0 <;> by_cases hb : b < 0
  · rw [decide_eq_true ha, decide_eq_true hb]
    have := Int.mul_pos_of_neg_of_neg ha hb
    show ((a * b).natAbs : Int) = a * b; omega
  · rw [decide_eq_true ha, decide_eq_false hb]
    have := Int.mul_nonpos_of_nonpos_of_nonneg (show a ≤ 0 by omega) (show 0 ≤ b by omega)
    show -((a * b).natAbs : Int) = a * b; omega
  · rw [decide_eq_false ha, decide_eq_true hb]
    have := Int.mul_nonpos_of_nonneg_of_nonpos (show 0 ≤ a by omega) (show b ≤ 0 by omega)
    show -((a * b).natAbs : Int) = a * b; omega
  · rw [decide_eq_false ha, decide_eq_false hb]
    have := Int.mul_nonneg (show 0 ≤ a by omega) (show 0 ≤ b by omega)
    show ((a * b).natAbs : Int) = a * b; omega

end Go.Proofs.Ytedjbmmegjgegaa
