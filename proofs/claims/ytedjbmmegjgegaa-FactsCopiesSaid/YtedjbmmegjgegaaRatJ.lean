/-
  Package ratio: Neg, Round, Of.
-/
import Derived.Test.YtedjbmmegjgegaaRatI
import Derived.Test.YtedjbmmegjgegaaMdA
namespace Go.Proofs.Ytedjbmmegjgegaa
open Go.RowKit
set_option linter.unusedVariables false

theorem of_parts (n d : Int) (hd : d ≠ 0) : (rat n d).num = sgn (decide (n < 0) != decide (d < 0)) (absI n / ((Int.gcd n d : Nat) : Int)) ∧ (((rat n d).den : Nat) : Int) = absI d / ((Int.gcd n d : Nat) : Int) := by
  have hg : 0 < Int.gcd n d := Int.gcd_pos_of_ne_zero_right n hd
  unfold rat
  rw [Rat.num_divInt, Rat.den_divInt, if_neg hd, Int.gcd_comm d n]
  constructor
  · obtain ⟨k, hk⟩ := Int.gcd_dvd_left n d
    have hgz : ((Int.gcd n d : Nat) : Int) ≠ 0 := by omega
    have e1 : absI n / ((Int.gcd n d : Nat) : Int) = absI k := by
      have : absI n = ((Int.gcd n d : Nat) : Int) * absI k := by
        conv => lhs; rw [hk]
        unfold absI; rw [Int.natAbs_mul, Int.natAbs_natCast, Int.natCast_mul]
      rw [this, Int.mul_ediv_cancel_left _ hgz]
    have e2 : d.sign * n / ((Int.gcd n d : Nat) : Int) = d.sign * k := by
      have : d.sign * n = ((Int.gcd n d : Nat) : Int) * (d.sign * k) := by
        conv => lhs; rw [hk]
        rw [← Int.mul_assoc, Int.mul_comm d.sign, Int.mul_assoc]
      rw [this, Int.mul_ediv_cancel_left _ hgz]
    have e3 : (n < 0) ↔ (k < 0) := by
      constructor
      · intro h
        by_cases g : k < 0
        · exact g
        · have := Int.mul_nonneg (show 0 ≤ ((Int.gcd n d : Nat) : Int) by omega) (show 0 ≤ k by omega); omega
      · intro h; rw [hk]; exact Int.mul_neg_of_pos_of_neg (by omega) h
    rw [e1, e2]
    have e4 : decide (n < 0) = decide (k < 0) := by rw [Bool.eq_iff_iff, decide_eq_true_iff, decide_eq_true_iff]; exact e3
    rw [e4]
    rcases Int.lt_trichotomy d 0 with h | h | h
    · rw [Int.sign_eq_neg_one_of_neg h, decide_eq_true h]
      unfold sgn absI
      by_cases g : k < 0
      · rw [decide_eq_true g]; simp; omega
      · rw [decide_eq_false g]; simp; omega
    · exact absurd h hd
    · rw [Int.sign_eq_one_of_pos h, decide_eq_false (show ¬ d < 0 by omega)]
      unfold sgn absI
      by_cases g : k < 0
      · rw [decide_eq_true g]; simp; omega
      · rw [decide_eq_false g]; simp; omega
  · unfold absI; rw [Int.natCast_ediv]

end Go.Proofs.Ytedjbmmegjgegaa
