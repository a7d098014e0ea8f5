/-
  What follows for MulDiv's rounding: signs, order, a number through itself.
-/
import Derived.Test.YtgeneoamngfomaaGreatDoorDv
import Derived.Below
namespace Go.Proofs.YtgeneoamngfomaaGreatDoor
open Go.RowKit
set_option linter.unusedVariables false

/-! ### What the laws ask of rounding -/
theorem near_self (p d : Int) (hd : 0 < d) : nearI (p * d) d = p := by
  unfold nearI up
  rw [Int.mul_ediv_cancel p (by omega), Int.mul_emod_left, if_neg (by omega)]; omega
theorem near_zero (d : Int) (hd : 0 < d) : nearI 0 d = 0 := by have := near_self 0 d hd; rwa [Int.zero_mul] at this
/-- Rounding keeps the order of numbers that are not below nought. -/
theorem near_mono (p q d : Int) (hd : 0 < d) (hp : 0 ≤ p) (h : p ≤ q) : nearI p d ≤ nearI q d := by
  unfold nearI
  have h1 : p / d ≤ q / d := Int.ediv_le_ediv hd h
  have u1 := up_01 (p / d) (p % d) d
  have u2 := up_01 (q / d) (q % d) d
  by_cases e : p / d = q / d
  · have a1 := Int.mul_ediv_add_emod p d
    have a2 := Int.mul_ediv_add_emod q d
    rw [e] at a1 ⊢
    have hr : p % d ≤ q % d := by omega
    unfold up
    split <;> split <;> omega
  · omega
theorem near_nonneg (p d : Int) (hd : 0 < d) (hp : 0 ≤ p) : 0 ≤ nearI p d := by
  have := near_mono 0 p d hd (by omega) hp; rwa [near_zero d hd] at this
theorem near_le (p d : Int) (hd : 0 < d) (hp : 0 ≤ p) : nearI p d ≤ p := by
  have h1 := near_mono p (p * d) d hd hp (by
    have : p * 1 ≤ p * d := Int.mul_le_mul_of_nonneg_left (by omega) hp
    omega)
  rwa [near_self p d hd] at h1
theorem md_one (a c : Int) (hc : 0 < c) : md a 1 c = sgn (decide (a < 0)) (nearI (absI a) c) := by
  unfold md
  have ho : odds a 1 c = decide (a < 0) := by unfold odds; rw [decide_eq_false (show ¬ c < 0 by omega)]; cases decide (a < 0) <;> rfl
  have e1 : absI 1 = 1 := rfl
  rw [ho, e1, Int.mul_one, absI_nonneg (show 0 ≤ c by omega)]
theorem md_one_in (a c : Int) (hc : 0 < c) (h0 : -9223372036854775808 ≤ a) (h1 : a ≤ 9223372036854775807) : inR (md a 1 c) = true := by
  rw [md_one a c hc, inR_iff]
  have ha : 0 ≤ absI a := by unfold absI; omega
  have n1 := near_le (absI a) c hc ha
  have n0 := near_nonneg (absI a) c hc ha
  by_cases g : a < 0
  · rw [decide_eq_true g]; rw [absI_neg g] at *; show -9223372036854775808 ≤ -(nearI (-a) c) ∧ -(nearI (-a) c) ≤ 9223372036854775807; omega
  · rw [decide_eq_false g]; rw [absI_nonneg (by omega)] at *; show -9223372036854775808 ≤ nearI a c ∧ nearI a c ≤ 9223372036854775807; omega
end Go.Proofs.YtgeneoamngfomaaGreatDoor
