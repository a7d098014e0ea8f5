/-
  The contract of math/bits.Div64: quotient and rest of 128 bits by 64 bits, where the quotient fits.
-/
import Derived.Test.YtdmdgoeacafpiaaGreatDoorLo
import Derived.Test.YtdmdgoeacafpiaaGreatDoorDivArith
import Derived.RegionTactic
import Derived.Deep.QuietTactic
import Derived.BigQuiet
import Derived.Deep.CutBlock
import Derived.Deep.CutRange
import Derived.Deep.Draws
namespace Go.Proofs.YtdmdgoeacafpiaaGreatDoor
open Go.RowKit

namespace DivA
/-- What stands in the registers behind the shift. -/
theorem setup (hi lo y s Y : Nat) (hs : s ≤ 63) (hY : y * 2 ^ s = Y) (hlt : hi < y) (hl : lo < 18446744073709551616) (hYt : Y < 18446744073709551616) :
    ∃ U L : Nat, U < Y ∧ L < 18446744073709551616 ∧ U * 18446744073709551616 + L = (hi * 18446744073709551616 + lo) * 2 ^ s ∧
      bits .or .u64 (IntKind.u64.wrap ((hi : Int) * 2 ^ s)) ((lo : Int) / 2 ^ (64 - s)) = (U : Int) ∧ IntKind.u64.wrap ((lo : Int) * 2 ^ s) = (L : Int) := by
  have p64 : 2 ^ (64 - s) * 2 ^ s = 18446744073709551616 := by rw [← Nat.pow_add, show 64 - s + s = 64 from by omega]
  have ps : 0 < 2 ^ s := Nat.two_pow_pos s
  have pt : 0 < 2 ^ (64 - s) := Nat.two_pow_pos _
  have hdiv : lo * 2 ^ s / 18446744073709551616 = lo / 2 ^ (64 - s) := by rw [← p64]; exact Nat.mul_div_mul_right _ _ ps
  have hsmall : lo / 2 ^ (64 - s) < 2 ^ s := by rw [Nat.div_lt_iff_lt_mul pt, Nat.mul_comm, p64]; exact hl
  have hHi : (hi + 1) * 2 ^ s ≤ Y := by rw [← hY]; exact Nat.mul_le_mul_right _ hlt
  rw [Nat.add_mul, Nat.one_mul] at hHi
  have hdm := Nat.div_add_mod (lo * 2 ^ s) 18446744073709551616
  rw [hdiv] at hdm
  refine ⟨hi * 2 ^ s + lo / 2 ^ (64 - s), lo * 2 ^ s % 18446744073709551616, by omega, Nat.mod_lt _ (by omega), ?_, ?_, ?_⟩
  · rw [Nat.add_mul, Nat.add_mul, Nat.mul_right_comm hi 18446744073709551616 (2 ^ s)]
    omega
  · have c1 : ((hi : Int) * 2 ^ s) = ((hi * 2 ^ s : Nat) : Int) := by rw [Int.natCast_mul, Int.natCast_pow]; rfl
    have c2 : ((lo : Int) / 2 ^ (64 - s)) = ((lo / 2 ^ (64 - s) : Nat) : Int) := by rw [Int.natCast_ediv, Int.natCast_pow]; rfl
    rw [c1, c2, BitsA.stays _ (by omega), bits_or_u64_nat _ _ (by omega) (by omega)]
    have := Nat.shiftLeft_add_eq_or_of_lt hsmall hi
    rw [Nat.shiftLeft_eq] at this
    rw [← this]
  · have c1 : ((lo : Int) * 2 ^ s) = ((lo * 2 ^ s : Nat) : Int) := by rw [Int.natCast_mul, Int.natCast_pow]; rfl
    rw [c1, BitsA.rounds]

theorem guess_int (U y1 : Nat) (h : U < 18446744073709551616) : IntKind.u64.wrap ((U : Int) / (y1 : Int)) = ((U / y1 : Nat) : Int) := by
  have : U / y1 ≤ U := Nat.div_le_self _ _
  rw [show (U : Int) / (y1 : Int) = ((U / y1 : Nat) : Int) from (Int.natCast_ediv U y1).symm]; exact BitsA.stays _ (by omega)
theorem prod_int (a b : Nat) (h : a * b < 18446744073709551616) : IntKind.u64.wrap ((a : Int) * (b : Int)) = ((a * b : Nat) : Int) := by
  rw [BitsA.prodN]; exact BitsA.stays _ h

/-- The rest of a digit, as the registers reckon it. -/
theorem rest_int (U d Y : Nat) (hY : 0 < Y) (hYt : Y < 18446744073709551616) :
    IntKind.u64.wrap (IntKind.u64.wrap (IntKind.u64.wrap ((U : Int) * 4294967296) + (d : Int)) - IntKind.u64.wrap ((((U * 4294967296 + d) / Y : Nat) : Int) * (Y : Int))) = (((U * 4294967296 + d) % Y : Nat) : Int) := by
  have h := Nat.div_add_mod (U * 4294967296 + d) Y
  have hm := Nat.mod_lt (U * 4294967296 + d) hY
  have e : ((((U * 4294967296 + d) / Y : Nat) : Int) * (Y : Int)) = ((Y * ((U * 4294967296 + d) / Y) : Nat) : Int) := by rw [Int.natCast_mul, Int.mul_comm]
  rw [e]
  generalize Y * ((U * 4294967296 + d) / Y) = p at *
  generalize (U * 4294967296 + d) % Y = r at *
  rw [IntKind.wrap_u64, IntKind.wrap_u64, IntKind.wrap_u64, IntKind.wrap_u64]
  omega
end DivA

end Go.Proofs.YtdmdgoeacafpiaaGreatDoor

namespace Go.Proofs.YtdmdgoeacafpiaaGreatDoor
open Go.RowKit
set_option linter.unusedVariables false

theorem shr_nat (a s : Nat) : ((a / 2 ^ s : Nat) : Int) = (a : Int) / 2 ^ s := by rw [Int.natCast_ediv, Int.natCast_pow]; rfl
theorem num_eq {k : IntKind} {a b : Int} (h : a = b) : Value.int k a = Value.int k b := by rw [h]

/-- A guess of a digit, on its way down. -/
def Guess (U y1 Q q r : Nat) : Prop := q * y1 + r = U ∧ Q ≤ q ∧ q ≤ 4294967297 ∧ r < 4294967296

def GuessI (U y1 Q : Nat) (q r : Int) : Prop := ∃ qn rn : Nat, q = qn ∧ r = rn ∧ Guess U y1 Q qn rn

theorem Guess.down {U Y y1 y0 d Q q r : Nat} (h : Guess U y1 Q q r) (HY : Hid (Y = y1 * 4294967296 + y0)) (hUY : U < Y) (hd : d < 4294967296) (HQ : Hid (Q = (U * 4294967296 + d) / Y))
    (ht : 4294967296 ≤ q ∨ 4294967296 * r + d < q * y0) : 0 < q ∧ Q ≤ q - 1 ∧ (q - 1) * y1 + (r + y1) = U := by
  have := DivA.guess_down q r U d y1 y0 4294967296 h.1 (by rw [← HY.out]; exact hUY) hd (by rw [← HY.out, ← HQ.out]; exact h.2.1) ht
  rw [← HY.out, ← HQ.out] at this
  exact this

theorem Guess.next {U Y y1 y0 d Q q r : Nat} (h : Guess U y1 Q q r) (HY : Hid (Y = y1 * 4294967296 + y0)) (hUY : U < Y) (hd : d < 4294967296) (HQ : Hid (Q = (U * 4294967296 + d) / Y))
    (ht : 4294967296 ≤ q ∨ 4294967296 * r + d < q * y0) (hr : r + y1 < 4294967296) : Guess U y1 Q (q - 1) (r + y1) := by
  obtain ⟨a, b, c⟩ := h.down HY hUY hd HQ ht
  have := h.2.2.1
  exact ⟨c, b, by omega, hr⟩

theorem Guess.last {U Y y1 y0 d Q q r : Nat} (h : Guess U y1 Q q r) (HY : Hid (Y = y1 * 4294967296 + y0)) (hUY : U < Y) (hd : d < 4294967296) (HQ : Hid (Q = (U * 4294967296 + d) / Y))
    (b3 : y0 < 4294967296) (ht : 4294967296 ≤ q ∨ 4294967296 * r + d < q * y0) (hr : 4294967296 ≤ r + y1) : q - 1 = Q := by
  obtain ⟨a, b, c⟩ := h.down HY hUY hd HQ ht
  have := h.2.2.1
  have hp : (q - 1) * y0 ≤ 4294967296 * 4294967295 := Nat.mul_le_mul (by omega) (by omega)
  have e := DivA.guess_done (q - 1) (r + y1) U d y1 y0 4294967296 c (by rw [← HY.out]; omega) (by rw [← HY.out, ← HQ.out]; exact b) (by omega)
  rw [← HY.out, ← HQ.out] at e
  exact e

theorem Guess.done {U Y y1 y0 d Q q r : Nat} (h : Guess U y1 Q q r) (HY : Hid (Y = y1 * 4294967296 + y0)) (hUY : U < Y) (HQ : Hid (Q = (U * 4294967296 + d) / Y))
    (ht : q * y0 ≤ 4294967296 * r + d) : q = Q := by
  have e := DivA.guess_done q r U d y1 y0 4294967296 h.1 (by rw [← HY.out]; omega) (by rw [← HY.out, ← HQ.out]; exact h.2.1) ht
  rw [← HY.out, ← HQ.out] at e
  exact e

theorem split_low (U L u : Nat) (h : U * 18446744073709551616 + L = u) : U * (4294967296 * 4294967296) + L / 4294967296 * 4294967296 + L % 4294967296 = u := by
  subst h
  rw [show (4294967296 * 4294967296 : Nat) = 18446744073709551616 from rfl]
  rw [Nat.add_assoc, Nat.div_add_mod' L 4294967296]

end Go.Proofs.YtdmdgoeacafpiaaGreatDoor

namespace Go.Proofs.YtdmdgoeacafpiaaGreatDoor
open Go.RowKit
set_option linter.unusedVariables false

def mulHi (x y : Int) : Int := x * y / 18446744073709551616
def mulLo (x y : Int) : Int := x * y % 18446744073709551616
def divQ (h l y : Int) : Int := (h * 18446744073709551616 + l) / y
def divR (h l y : Int) : Int := (h * 18446744073709551616 + l) % y

/-- The nearest whole number of p through d, an even one of two. -/
def nearI (p d : Int) : Int := p / d + up (p / d) (p % d) d

/-- Whether just one of two is below nought. -/
def odds (a b c : Int) : Bool := ((decide (a < 0) != decide (b < 0)) != decide (c < 0))

/-- a times b through c, rounded. -/
def md (a b c : Int) : Int := sgn (odds a b c) (nearI (absI a * absI b) (absI c))

theorem up_01 (q r d : Int) : 0 ≤ up q r d ∧ up q r d ≤ 1 := by unfold up; split <;> omega
theorem absI_bd (a : Int) (h0 : -9223372036854775808 ≤ a) (h1 : a ≤ 9223372036854775807) : 0 ≤ absI a ∧ absI a ≤ 9223372036854775808 := by unfold absI; omega
theorem hl_back (p : Int) : p / 18446744073709551616 * 18446744073709551616 + p % 18446744073709551616 = p := by omega

theorem sgn_out (b : Bool) (m : Int) (h : 18446744073709551616 ≤ m) : inR (sgn b m) = false := by cases b <;> simp [inR, sgn] <;> omega

theorem near_out (p d : Int) (hd : 0 < d) (hp : 0 ≤ p) (h : d ≤ p / 18446744073709551616) : 18446744073709551616 ≤ nearI p d := by
  unfold nearI
  have hu := (up_01 (p / d) (p % d) d).1
  have : 18446744073709551616 ≤ p / d := by
    rw [Int.le_ediv_iff_mul_le hd]
    have := hl_back p
    omega
  omega

theorem quo_le (p d : Int) (hd : 0 < d) (h : p / 18446744073709551616 < d) : p / d ≤ 18446744073709551615 := by
  have : p / d < 18446744073709551616 := by
    rw [Int.ediv_lt_iff_lt_mul hd]
    omega
  omega

end Go.Proofs.YtdmdgoeacafpiaaGreatDoor

namespace Go.Proofs.YtdmdgoeacafpiaaGreatDoor
open Go.RowKit
set_option linter.unusedVariables false

theorem prod_sgn (a b : Int) : sgn (decide (a < 0) != decide (b < 0)) (absI a * absI b) = a * b := by
  unfold absI sgn
  rw [← Int.natCast_mul, ← Int.natAbs_mul]
  by_cases ha : a < 0 <;> by_cases hb : b < 0
  · rw [decide_eq_true ha, decide_eq_true hb]
    have := Int.mul_pos_of_neg_of_neg ha hb
    show ((a * b).natAbs : Int) = a * b; omega
  · rw [decide_eq_true ha, decide_eq_false hb]
    have := Int.mul_nonpos_of_nonpos_of_nonneg (show a ≤ 0 by omega) (show 0 ≤ b by omega)
    show -((a * b).natAbs : Int) = a * b; omega
  · rw [decide_eq_false ha, decide_eq_true hb]
    have := Int.mul_nonpos_of_nonneg_of_nonpos (show 0 ≤ a by omega) (show b ≤ 0 by omega)
    show -((a * b).natAbs : Int) = a * b; omega
  · rw [decide_eq_false ha, decide_eq_false hb]
    have := Int.mul_nonneg (show 0 ≤ a by omega) (show 0 ≤ b by omega)
    show ((a * b).natAbs : Int) = a * b; omega

end Go.Proofs.YtdmdgoeacafpiaaGreatDoor
