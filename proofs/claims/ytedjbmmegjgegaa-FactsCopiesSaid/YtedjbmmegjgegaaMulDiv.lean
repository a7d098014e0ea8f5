/-
  The contract of amount.MulDiv: a times b through c, rounded to the nearest number, to an even one of two.
-/
import Derived.Test.YtedjbmmegjgegaaDivW
namespace Go.Proofs.Ytedjbmmegjgegaa
open Go.RowKit
set_option linter.unusedVariables false

def mulHi (x y : Int) : Int := x * y / 18446744073709551616
def mulLo (x y : Int) : Int := x * y % 18446744073709551616
def divQ (h l y : Int) : Int := (h * 18446744073709551616 + l) / y
def divR (h l y : Int) : Int := (h * 18446744073709551616 + l) % y

/-- The nearest whole number of p through d, an even one of two. -/
def nearI (p d : Int) : Int := p / d + up (p / d) (p % d) d

/-- Whether just one of two is below nought. -/
def odds (a b c : Int) : Bool := ((decide (a < 0) != decide (b < 0)) != decide (c < 0))

/-- a times b through c, rounded. -/
def md (a b c : Int) : Int := sgn (odds a b c) (nearI (absI a * absI b) (absI c))

theorem up_01 (q r d : Int) : 0 ≤ up q r d ∧ up q r d ≤ 1 := by unfold up; split <;> omega
theorem absI_bd (a : Int) (h0 : -9223372036854775808 ≤ a) (h1 : a ≤ 9223372036854775807) : 0 ≤ absI a ∧ absI a ≤ 9223372036854775808 := by unfold absI; omega
theorem hl_back (p : Int) : p / 18446744073709551616 * 18446744073709551616 + p % 18446744073709551616 = p := by omega

theorem sgn_out (b : Bool) (m : Int) (h : 18446744073709551616 ≤ m) : inR (sgn b m) = false := by cases b <;> simp [inR, sgn] <;> omega

theorem near_out (p d : Int) (hd : 0 < d) (hp : 0 ≤ p) (h : d ≤ p / 18446744073709551616) : 18446744073709551616 ≤ nearI p d := by
  unfold nearI
  have hu := (up_01 (p / d) (p % d) d).1
  have : 18446744073709551616 ≤ p / d := by
    rw [Int.le_ediv_iff_mul_le hd]
    have := hl_back p
    omega
  omega

theorem quo_le (p d : Int) (hd : 0 < d) (h : p / 18446744073709551616 < d) : p / d ≤ 18446744073709551615 := by
  have : p / d < 18446744073709551616 := by
    rw [Int.ediv_lt_iff_lt_mul hd]
    omega
  omega

end Go.Proofs.Ytedjbmmegjgegaa
