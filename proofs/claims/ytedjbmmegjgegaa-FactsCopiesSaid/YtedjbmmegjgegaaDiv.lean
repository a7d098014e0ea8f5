/-
  The contract of math/bits.Div64: quotient and rest of 128 bits by 64 bits, where the quotient fits.
-/
import Derived.Test.YtedjbmmegjgegaaBits
import Derived.Test.YtedjbmmegjgegaaDivArith
import Derived.RegionTactic
import Derived.Deep.QuietTactic
import Derived.BigQuiet
import Derived.Deep.CutBlock
import Derived.Deep.CutRange
namespace Go.Proofs.Ytedjbmmegjgegaa
open Go.RowKit

namespace DivA
/-- What stands in the registers behind the shift. -/
theorem setup (hi lo y s Y : Nat) (hs : s ≤ 63) (hY : y * 2 ^ s = Y) (hlt : hi < y) (hl : lo < 18446744073709551616) (hYt : Y < 18446744073709551616) :
    ∃ U L : Nat, U < Y ∧ L < 18446744073709551616 ∧ U * 18446744073709551616 + L = (hi * 18446744073709551616 + lo) * 2 ^ s ∧
      bits .or .u64 (IntKind.u64.wrap ((hi : Int) * 2 ^ s)) ((lo : Int) / 2 ^ (64 - s)) = (U : Int) ∧ IntKind.u64.wrap ((lo : Int) * 2 ^ s) = (L : Int) := by
  have p64 : 2 ^ (64 - s) * 2 ^ s = 18446744073709551616 := by rw [← Nat.pow_add, show 64 - s + s = 64 from by omega]
  have ps : 0 < 2 ^ s := Nat.two_pow_pos s
  have pt : 0 < 2 ^ (64 - s) := Nat.two_pow_pos _
  have hdiv : lo * 2 ^ s / 18446744073709551616 = lo / 2 ^ (64 - s) := by rw [← p64]; exact Nat.mul_div_mul_right _ _ ps
  have hsmall : lo / 2 ^ (64 - s) < 2 ^ s := by rw [Nat.div_lt_iff_lt_mul pt, Nat.mul_comm, p64]; exact hl
  have hHi : (hi + 1) * 2 ^ s ≤ Y := by rw [← hY]; exact Nat.mul_le_mul_right _ hlt
  rw [Nat.add_mul, Nat.one_mul] at hHi
  have hdm := Nat.div_add_mod (lo * 2 ^ s) 18446744073709551616
  rw [hdiv] at hdm
  refine ⟨hi * 2 ^ s + lo / 2 ^ (64 - s), lo * 2 ^ s % 18446744073709551616, by omega, Nat.mod_lt _ (by omega), ?_, ?_, ?_⟩
  · rw [Nat.add_mul, Nat.add_mul, Nat.mul_right_comm hi 18446744073709551616 (2 ^ s)]
    omega
  · have c1 : ((hi : Int) * 2 ^ s) = ((hi * 2 ^ s : Nat) : Int) := by rw [Int.natCast_mul, Int.natCast_pow]; rfl
    have c2 : ((lo : Int) / 2 ^ (64 - s)) = ((lo / 2 ^ (64 - s) : Nat) : Int) := by rw [Int.natCast_ediv, Int.natCast_pow]; rfl
    rw [c1, c2, BitsA.stays _ (by omega), bits_or_u64_nat _ _ (by omega) (by omega)]
    have := Nat.shiftLeft_add_eq_or_of_lt hsmall hi
    rw [Nat.shiftLeft_eq] at this
    rw [← this]
  · have c1 : ((lo : Int) * 2 ^ s) = ((lo * 2 ^ s : Nat) : Int) := by rw [Int.natCast_mul, Int.natCast_pow]; rfl
    rw [c1, BitsA.rounds]

theorem guess_int (U y1 : Nat) (h : U < 18446744073709551616) : IntKind.u64.wrap ((U : Int) / (y1 : Int)) = ((U / y1 : Nat) : Int) := by
  have : U / y1 ≤ U := Nat.div_le_self _ _
  rw [show (U : Int) / (y1 : Int) = ((U / y1 : Nat) : Int) from (Int.natCast_ediv U y1).symm]; exact BitsA.stays _ (by omega)
theorem prod_int (a b : Nat) (h : a * b < 18446744073709551616) : IntKind.u64.wrap ((a : Int) * (b : Int)) = ((a * b : Nat) : Int) := by
  rw [BitsA.prodN]; exact BitsA.stays _ h

/-- The rest of a digit, as the registers reckon it. -/
theorem rest_int (U d Y : Nat) (hY : 0 < Y) (hYt : Y < 18446744073709551616) :
    IntKind.u64.wrap (IntKind.u64.wrap (IntKind.u64.wrap ((U : Int) * 4294967296) + (d : Int)) - IntKind.u64.wrap ((((U * 4294967296 + d) / Y : Nat) : Int) * (Y : Int))) = (((U * 4294967296 + d) % Y : Nat) : Int) := by
  have h := Nat.div_add_mod (U * 4294967296 + d) Y
  have hm := Nat.mod_lt (U * 4294967296 + d) hY
  have e : ((((U * 4294967296 + d) / Y : Nat) : Int) * (Y : Int)) = ((Y * ((U * 4294967296 + d) / Y) : Nat) : Int) := by rw [Int.natCast_mul, Int.mul_comm]
  rw [e]
  generalize Y * ((U * 4294967296 + d) / Y) = p at *
  generalize (U * 4294967296 + d) % Y = r at *
  rw [IntKind.wrap_u64, IntKind.wrap_u64, IntKind.wrap_u64, IntKind.wrap_u64]
  omega
end DivA

end Go.Proofs.Ytedjbmmegjgegaa
