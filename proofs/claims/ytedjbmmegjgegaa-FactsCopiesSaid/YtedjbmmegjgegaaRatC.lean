/-
  Package ratio: product.
-/
import Derived.Test.YtedjbmmegjgegaaRatB
namespace Go.Proofs.Ytedjbmmegjgegaa
open Go.RowKit
set_option linter.unusedVariables false

theorem tdiv_bd {n g : Int} (hg : 0 < g) (n0 : -9223372036854775807 ≤ n) (n1 : n ≤ 9223372036854775807) : -9223372036854775807 ≤ n.tdiv g ∧ n.tdiv g ≤ 9223372036854775807 := by
  have h : (n.tdiv g).natAbs ≤ n.natAbs := by rw [Int.natAbs_tdiv]; exact Nat.div_le_self _ _
  omega
theorem mul_low {na da nb db : Int} (ha : OkR na da) (hb : OkR nb db) :
    lowV (fitN (na.tdiv (Int.gcd na db : Nat) * nb.tdiv (Int.gcd nb da : Nat))) (fitN (da.tdiv (Int.gcd nb da : Nat) * db.tdiv (Int.gcd na db : Nat))) (firstE (fitE (na.tdiv (Int.gcd na db : Nat) * nb.tdiv (Int.gcd nb da : Nat))) (fitE (da.tdiv (Int.gcd nb da : Nat) * db.tdiv (Int.gcd na db : Nat)))) = fitV (rat na da * rat nb db) := by
  obtain ⟨h1, h2⟩ := mul_parts (rat na da) (rat nb db)
  rw [ha.num, hb.num, ha.denN, hb.denN] at h1 h2
  refine low_fit _ _ _ h1 ?_
  rw [h2]
  obtain ⟨A, rfl⟩ := Int.eq_ofNat_of_zero_le (show 0 ≤ da by have := ha.d0; omega)
  obtain ⟨B, rfl⟩ := Int.eq_ofNat_of_zero_le (show 0 ≤ db by have := hb.d0; omega)
  show _ = ((A / Int.gcd nb A : Nat) : Int) * ((B / Int.gcd na B : Nat) : Int)
  rw [Int.natCast_mul]; rfl

end Go.Proofs.Ytedjbmmegjgegaa
