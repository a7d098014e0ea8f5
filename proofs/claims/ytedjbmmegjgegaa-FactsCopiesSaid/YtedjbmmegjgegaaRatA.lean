/-
  Package ratio's small functions: size, divisor, common, opposite, upsideDown, firstError.
-/
import Derived.Test.YtedjbmmegjgegaaMul
import Derived.Below
import Derived.RegionTactic
import Derived.Deep.QuietTactic
import Derived.BigQuiet
import Derived.Deep.Draws
namespace Go.Proofs.Ytedjbmmegjgegaa
open Go.RowKit
set_option linter.unusedVariables false

theorem rsize_any (a : Int) (w : World) (h0 : -9223372036854775808 ≤ a) (h1 : a ≤ 9223372036854775807) :
    Calls Try.prog 63 #[.int .i64 a] w fun e w' => e = .returned (.int .u64 (absI a)) ∧ w = w' := by
  by_cases h : a < 0
  · go_enter Try.func63, Try.ntmps63
    go_wp2
    go_ret
    exact ⟨ret_int (size_num a h0 h), rfl⟩
  · go_enter Try.func63, Try.ntmps63
    go_wp2
    go_ret
    exact ⟨ret_int (absI_nonneg (by omega)).symm, rfl⟩

theorem gcd_step (a b : Nat) : Nat.gcd b (a % b) = Nat.gcd a b := by rw [Nat.gcd_comm b, ← Nat.gcd_rec, Nat.gcd_comm]

set_option maxHeartbeats 1000000 in
theorem divisor_nat (x y : Nat) (w : World) (hx : x < 18446744073709551616) (hy : y < 18446744073709551616) :
    Calls Try.prog 62 #[.int .u64 x, .int .u64 y] w fun e w' => e = .returned (.int .u64 ((Nat.gcd x y : Nat) : Int)) ∧ ∃ n, w' = w.drewN n := by
  go_enter Try.func62, Try.ntmps62
  go_wp2
  go_loopw [0, 1] (fun va vb wx => ∃ a b n : Nat, va = .int .u64 a ∧ vb = .int .u64 b ∧ a < 18446744073709551616 ∧ b < 18446744073709551616 ∧ Nat.gcd a b = Nat.gcd x y ∧ wx = w.drewN n) (fun _ vb _ => (intOf vb).toNat)
  case atStart => exact ⟨x, y, 0, rfl, rfl, hx, hy, rfl, rfl⟩
  case round =>
    obtain ⟨a, b, n, rfl, rfl, ha, hb, hg, hw⟩ := hrel
    by_cases hz : b = 0
    · subst hz
      rw [Nat.gcd_zero_right] at hg
      have HG := Lib.hid hg
      have HW := Lib.hid hw
      clear hg hw
      go_wp2
      go_ret
      exact ⟨ret_int (by rw [HG.out]), n, HW.out⟩
    · have hzb : ((b : Int) == 0) = false := by simp; omega
      have hzn : ((b : Int) != 0) = true := by simp; omega
      have HG := Lib.hid hg
      have HW := Lib.hid hw
      clear hg hw
      have hpos : (0 : Int) < (b : Int) := by omega
      go_wp2
      go_region
      go_roundw
      case rel =>
        refine ⟨_, _, _, _, _, _, _, _, ?_, rfl⟩
        exact ⟨b, a % b, n + 1, rfl, by go_num, hb, by have := Nat.mod_lt a (show 0 < b by omega); omega, by rw [gcd_step]; exact HG.out, by rw [HW.out]; rfl⟩
      case measure =>
        have := Nat.mod_lt a (show 0 < b by omega)
        simp [intOf]; omega

theorem divisor_any (x y : Int) (w : World) (x0 : 0 ≤ x) (x1 : x ≤ 18446744073709551615) (y0 : 0 ≤ y) (y1 : y ≤ 18446744073709551615) :
    Calls Try.prog 62 #[.int .u64 x, .int .u64 y] w fun e w' => e = .returned (.int .u64 ((Int.gcd x y : Nat) : Int)) ∧ ∃ n, w' = w.drewN n := by
  obtain ⟨a, rfl⟩ := Int.eq_ofNat_of_zero_le x0
  obtain ⟨b, rfl⟩ := Int.eq_ofNat_of_zero_le y0
  exact divisor_nat a b w (by omega) (by omega)

theorem gcd_abs (a b : Int) : Int.gcd (absI a) (absI b) = Int.gcd a b := by unfold absI Int.gcd; simp

theorem common_any (a b : Int) (w : World) (a0 : -9223372036854775808 ≤ a) (a1 : a ≤ 9223372036854775807) (b0 : -9223372036854775808 ≤ b) (b1 : b ≤ 9223372036854775807) (hg : ((Int.gcd a b : Nat) : Int) ≤ 9223372036854775807) :
    Calls Try.prog 50 #[.int .i64 a, .int .i64 b] w fun e w' => e = .returned (.int .i64 ((Int.gcd a b : Nat) : Int)) ∧ ∃ n, w' = w.drewN n := by
  obtain ⟨sa0, sa1⟩ := absI_bd a a0 a1
  obtain ⟨sb0, sb1⟩ := absI_bd b b0 b1
  have HD := Lib.hid (fun w => gcd_abs a b ▸ divisor_any (absI a) (absI b) w sa0 (by omega) sb0 (by omega))
  obtain ⟨g, hgg⟩ : ∃ g : Nat, g = Int.gcd a b := ⟨_, rfl⟩
  rw [← hgg] at HD hg ⊢
  clear hgg
  go_enter Try.func50, Try.ntmps50
  go_wp2_with (first | (go_at_call 63; refine (rsize_any _ _ (by omega) (by omega)).mono ?_; rintro e w' ⟨rfl, rfl⟩) | (go_at_call 62; refine (HD.out _).mono ?_; rintro e w' ⟨rfl, n, rfl⟩))
  go_ret
  exact ⟨rfl, _, rfl⟩

/-- The first of two errors. -/
def firstE (e f : Int) : Int := if e = 0 then f else e

end Go.Proofs.Ytedjbmmegjgegaa
