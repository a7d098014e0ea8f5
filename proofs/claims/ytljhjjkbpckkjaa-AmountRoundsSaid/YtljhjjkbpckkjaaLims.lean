/-
  Sum's contract, of any slice; how great a product is.
-/
import Derived.Test.YtljhjjkbpckkjaaRefH
namespace Go.Proofs.Ytljhjjkbpckkjaa
open Go.RowKit
set_option linter.unusedVariables false

theorem sum_slf (l : List Int) (p : Option Addr) (cap : Nat) (w : World) (h : SLF w p l) (hi : InI l) (hn : l.length ≤ 1000) :
    Calls Try.prog 75 #[.slice p l.length cap] w fun e w' => e = .returned (.tuple #[.int .i64 (fitN (sumL l)), .int .i64 (fitE (sumL l))]) ∧ w = w' := by
  rcases h with rfl | ⟨b, o, rfl, hb, hr⟩
  · exact sum_nil p cap w
  · exact sum_row l b o cap w hr hi (by omega)

theorem mul_lim {x y : Int} (x0 : -9223372036854775808 ≤ x) (x1 : x ≤ 9223372036854775807) (y0 : -9223372036854775808 ≤ y) (y1 : y ≤ 9223372036854775807) (k : Nat) (hk : 128 ≤ k) : (x * y).natAbs < 2 ^ k := by
  have h1 : x.natAbs < 18446744073709551616 := by omega
  have h2 : y.natAbs < 18446744073709551616 := by omega
  have h3 : x.natAbs * y.natAbs < 18446744073709551616 * 18446744073709551616 := Nat.mul_lt_mul'' h1 h2
  have h4 : (18446744073709551616 * 18446744073709551616 : Nat) = 2 ^ 128 := by decide
  rw [h4] at h3
  rw [Int.natAbs_mul]
  exact Nat.lt_of_lt_of_le h3 (Nat.pow_le_pow_right (by decide) hk)

end Go.Proofs.Ytljhjjkbpckkjaa
