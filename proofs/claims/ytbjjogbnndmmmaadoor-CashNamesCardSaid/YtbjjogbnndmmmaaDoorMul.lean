/-
  amount.Mul: the product, or that it does not fit.
-/
import Derived.Test.YtbjjogbnndmmmaaDoorMulDiv
namespace Go.Proofs.YtbjjogbnndmmmaaDoor
open Go.RowKit
set_option linter.unusedVariables false

theorem prod_sgn (a b : Int) : sgn (decide (a < 0) != decide (b < 0)) (absI a * absI b) = a * b := by
  unfold absI sgn
  rw [← Int.natCast_mul, ← Int.natAbs_mul]
  by_cases ha : a < 0 <;> by_cases hb : b < 0
  · rw [decide_eq_true ha, decide_eq_true hb]
    have := Int.mul_pos_of_neg_of_neg ha hb
    show ((a * b).natAbs : Int) = a * b; omega
  · rw [decide_eq_true ha, decide_eq_false hb]
    have := Int.mul_nonpos_of_nonpos_of_nonneg (show a ≤ 0 by omega) (show 0 ≤ b by omega)
    show -((a * b).natAbs : Int) = a * b; omega
  · rw [decide_eq_false ha, decide_eq_true hb]
    have := Int.mul_nonpos_of_nonneg_of_nonpos (show 0 ≤ a by omega) (show b ≤ 0 by omega)
    show -((a * b).natAbs : Int) = a * b; omega
  · rw [decide_eq_false ha, decide_eq_false hb]
    have := Int.mul_nonneg (show 0 ≤ a by omega) (show 0 ≤ b by omega)
    show ((a * b).natAbs : Int) = a * b; omega

set_option maxHeartbeats 1000000 in
theorem mul_any (a b : Int) (w : World) (a0 : -9223372036854775808 ≤ a) (a1 : a ≤ 9223372036854775807) (b0 : -9223372036854775808 ≤ b) (b1 : b ≤ 9223372036854775807) :
    Calls Tryd.prog 72 #[.int .i64 a, .int .i64 b] w fun e w' => e = .returned (.tuple #[.int .i64 (fitN (a * b)), .int .i64 (fitE (a * b))]) ∧ w = w' := by
  obtain ⟨sa0, sa1⟩ := absI_bd a a0 a1
  obtain ⟨sb0, sb1⟩ := absI_bd b b0 b1
  have hp0 : 0 ≤ absI a * absI b := Int.mul_nonneg sa0 sb0
  have hh0 : 0 ≤ mulHi (absI a) (absI b) := by unfold mulHi; omega
  have HP := Lib.hid (prod_sgn a b)
  by_cases hz : mulHi (absI a) (absI b) = 0
  · have hl : mulLo (absI a) (absI b) = absI a * absI b := by unfold mulLo; unfold mulHi at hz; omega
    have hl1 : absI a * absI b ≤ 18446744073709551615 := by unfold mulHi at hz; omega
    have HM := Lib.hid (fun w => mul64_int (absI a) (absI b) w sa0 (by omega) sb0 (by omega))
    have HS := Lib.hid (fun c w => signed_any (absI a * absI b) c w hp0 hl1)
    rw [hz, hl] at HM
    have hzb : ((0 : Int) != 0) = false := rfl
    clear hz hl
    generalize absI a * absI b = P at *
    go_enter Tryd.func72, Tryd.ntmps72
    go_wp2_with (first | (go_at_call 74; refine (size_any _ _ (by omega) (by omega)).mono ?_; rintro e w' ⟨rfl, rfl⟩) | (go_at_call 75; refine (HM.out _).mono ?_; rintro e w' ⟨rfl, rfl⟩) | (go_at_call 78; refine (HS.out _ _).mono ?_; rintro e w' ⟨rfl, rfl⟩))
    go_ret2
    exact ⟨ret_two (congrArg fitN HP.out) (congrArg fitE HP.out), rfl⟩
  · have hb : (mulHi (absI a) (absI b) != 0) = true := by simpa using hz
    have HF : Hid (inR (a * b) = false) := Lib.hid (by rw [← HP.out]; exact sgn_out _ _ (by unfold mulHi at hz hh0; omega))
    clear hz
    go_enter Tryd.func72, Tryd.ntmps72
    go_wp2_with (first | (go_at_call 74; refine (size_any _ _ (by omega) (by omega)).mono ?_; rintro e w' ⟨rfl, rfl⟩) | (go_at_call 75; refine (mul64_int _ _ _ (by omega) (by omega) (by omega) (by omega)).mono ?_; rintro e w' ⟨rfl, rfl⟩))
    go_ret2
    exact ⟨ret_two (fitN_out HF.out).symm (fitE_out HF.out).symm, rfl⟩

end Go.Proofs.YtbjjogbnndmmmaaDoor
