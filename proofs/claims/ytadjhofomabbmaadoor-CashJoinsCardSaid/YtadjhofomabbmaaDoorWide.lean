/-
  Package ratio's wide numbers (128 bits in two's complement): add, sign, size, rest, through.
-/
import Derived.Test.YtadjhofomabbmaaDoorRatA
import Derived.Shelf.Spec.BitsCarry
namespace Go.Proofs.YtadjhofomabbmaaDoor
open Go.RowKit
set_option linter.unusedVariables false

/-- The two words of a number of 128 bits, in two's complement. -/
def wH (z : Int) : Int := (z / 18446744073709551616) % 18446744073709551616
def wL (z : Int) : Int := z % 18446744073709551616
theorem wH_bd (z : Int) : 0 ≤ wH z ∧ wH z ≤ 18446744073709551615 := by unfold wH; omega
theorem wL_bd (z : Int) : 0 ≤ wL z ∧ wL z ≤ 18446744073709551615 := by unfold wL; omega

theorem add64c_run (x y c : Int) (h0 : 0 ≤ x) (g0 : 0 ≤ y) (c0 : 0 ≤ c) (c1 : c ≤ 1) (w : World) :
    (callFunc 53 #[.int .u64 x, .int .u64 y, .int .u64 c]).run Tryd.prog w =
      .ok (.value (.tuple #[.int .u64 ((x + y + c) % 18446744073709551616), .int .u64 ((x + y + c) / 18446744073709551616)])) w := by
  rw [run_callFunc_extern Tryd.func53 (by kernel_rfl) (by kernel_rfl) (by kernel_rfl) (e := add64Entry) (by kernel_rfl), run_add64 x y c h0 g0 c0 c1]
  rfl
theorem wide_add (z p : Int) : (wL z + p % 18446744073709551616 + 0) % 18446744073709551616 = wL (z + p) ∧ (wH z + p / 18446744073709551616 + (wL z + p % 18446744073709551616 + 0) / 18446744073709551616) % 18446744073709551616 = wH (z + p) := by
  unfold wL wH; omega
theorem wide_sub (z p : Int) : (wL z - p % 18446744073709551616 - 0) % 18446744073709551616 = wL (z - p) ∧ (wH z - p / 18446744073709551616 - (if wL z < p % 18446744073709551616 + 0 then 1 else 0)) % 18446744073709551616 = wH (z - p) := by
  unfold wL wH; split <;> omega

/-- What add leaves. -/
def WAddPost (b : Nat) (t : Int) (w : World) (e : Ending) (w' : World) : Prop :=
  e = .returned (.tuple #[]) ∧ w' = (w.setCell ⟨b, 1, none⟩ (.int .u64 (wL t))).setCell ⟨b, 0, none⟩ (.int .u64 (wH t))

theorem wide_neg (z : Int) (z0 : -170141183460469231731687303715884105728 ≤ z) (h : z < 0) : (0 - wL z - 0) % 18446744073709551616 = mulLo (absI z) 1 ∧ (0 - wH z - (if 0 < wL z + 0 then 1 else 0)) % 18446744073709551616 = mulHi (absI z) 1 := by
  unfold wL wH mulLo mulHi absI; split <;> omega
theorem wide_pos (z : Int) (z1 : z < 170141183460469231731687303715884105728) (h : 0 ≤ z) : wL z = mulLo (absI z) 1 ∧ wH z = mulHi (absI z) 1 := by
  unfold wL wH mulLo mulHi absI; omega

end Go.Proofs.YtadjhofomabbmaaDoor
