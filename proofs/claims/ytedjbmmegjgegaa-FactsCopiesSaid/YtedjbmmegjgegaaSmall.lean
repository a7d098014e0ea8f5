/-
  Contracts of the small functions under package amount: size, signed, signBits, roundUp.
-/
import Derived.Test.YtedjbmmegjgegaaProg
import Derived.WalkKit
import Derived.PlainAid
import Derived.Lib.Hide
namespace Go.Proofs.Ytedjbmmegjgegaa
open Go.RowKit

/-- What is told of a number: it, if it fits, else 0; and OK or ErrOver. -/
def inR (n : Int) : Bool := decide (-9223372036854775808 ≤ n ∧ n ≤ 9223372036854775807)
def fitN (n : Int) : Int := if inR n then n else 0
def fitE (n : Int) : Int := if inR n then 0 else 11

theorem inR_iff (n : Int) : inR n = true ↔ (-9223372036854775808 ≤ n ∧ n ≤ 9223372036854775807) := by simp [inR]
theorem fitN_in {n : Int} (h : inR n = true) : fitN n = n := by simp [fitN, h]
theorem fitE_in {n : Int} (h : inR n = true) : fitE n = 0 := by simp [fitE, h]
theorem fitN_out {n : Int} (h : inR n = false) : fitN n = 0 := by simp [fitN, h]
theorem fitE_out {n : Int} (h : inR n = false) : fitE n = 11 := by simp [fitE, h]

def absI (a : Int) : Int := (a.natAbs : Int)

theorem absI_neg {a : Int} (h : a < 0) : absI a = -a := by unfold absI; omega
theorem absI_nonneg {a : Int} (h : 0 ≤ a) : absI a = a := by unfold absI; omega
theorem ret_int {k : IntKind} {a b : Int} (h : a = b) : Ending.returned (.int k a) = .returned (.int k b) := by rw [h]
theorem ret_two {k l : IntKind} {a b c d : Int} (h : a = b) (g : c = d) : Ending.returned (.tuple #[.int k a, .int l c]) = .returned (.tuple #[.int k b, .int l d]) := by rw [h, g]

theorem size_num (a : Int) (h0 : -9223372036854775808 ≤ a) (h : a < 0) : IntKind.u64.wrap (-(IntKind.u64.wrap a)) = absI a := by
  rw [absI_neg h, IntKind.wrap_u64, IntKind.wrap_u64]; omega

/-- The number of a size and a sign. -/
def sgn (b : Bool) (m : Int) : Int := if b then -m else m

/-- Whether the next number is nearer, or as near and even. -/
def up (q r d : Int) : Int := if d - r < r ∨ (r = d - r ∧ q % 2 = 1) then 1 else 0

end Go.Proofs.Ytedjbmmegjgegaa
