/-
  Package ratio: the wide number's rest and through.
-/
import Derived.Test.YtedjbmmegjgegaaWide
import Derived.Test.YtedjbmmegjgegaaRatC
namespace Go.Proofs.Ytedjbmmegjgegaa
open Go.RowKit
set_option linter.unusedVariables false

theorem hl_bd (z : Int) (z0 : -170141183460469231731687303715884105728 ≤ z) (z1 : z < 170141183460469231731687303715884105728) : 0 ≤ mulHi (absI z) 1 ∧ mulHi (absI z) 1 ≤ 18446744073709551615 ∧ 0 ≤ mulLo (absI z) 1 ∧ mulLo (absI z) 1 ≤ 18446744073709551615 ∧ mulHi (absI z) 1 * 18446744073709551616 + mulLo (absI z) 1 = absI z := by
  unfold mulHi mulLo absI; omega

theorem tdiv_sign (z y : Int) (y0 : 0 < y) : z.tdiv y = z.sign * (absI z / y) := by
  unfold absI
  rcases Int.lt_trichotomy z 0 with h | h | h
  · rw [Int.sign_eq_neg_one_of_neg h]
    obtain ⟨k, rfl⟩ : ∃ k : Nat, z = -(k : Int) := ⟨z.natAbs, by omega⟩
    rw [Int.neg_tdiv, Int.tdiv_eq_ediv_of_nonneg (by omega), Int.natAbs_neg, Int.natAbs_natCast]; omega
  · subst h; simp
  · rw [Int.sign_eq_one_of_pos h, Int.tdiv_eq_ediv_of_nonneg (by omega), Int.one_mul]
    congr 1; omega
theorem tdiv_abs (z y : Int) (y0 : 0 < y) : absI (z.tdiv y) = absI z / y := by
  rw [tdiv_sign z y y0]
  have h : 0 ≤ absI z / y := Int.ediv_nonneg (by unfold absI; omega) (by omega)
  rcases Int.lt_trichotomy z 0 with g | g | g
  · rw [Int.sign_eq_neg_one_of_neg g]; unfold absI at *; omega
  · subst g; simp [absI]
  · rw [Int.sign_eq_one_of_pos g]; unfold absI at *; omega
theorem inS_abs (n : Int) : inS n = decide (absI n ≤ 9223372036854775807) := by
  unfold inS absI
  rw [Bool.eq_iff_iff, decide_eq_true_iff, decide_eq_true_iff]; omega

end Go.Proofs.Ytedjbmmegjgegaa
